import Derived.Test.Ytfdcmbjkapcbcaaetap0
open Go Go.Ab
set_option maxRecDepth 100000
set_option linter.unusedVariables false
set_option linter.unusedSimpArgs false
namespace Go.Ab
/-- Bases: valid ones, digits, numbers of digits. -/
def bsB (xs : List Int) : Bool := decide (1 ≤ xs.length) && decide (xs.length ≤ 6) && allB xs 1 1000 && decide (volW xs ≤ 1000000)
def cwV (xs : List Int) : Int := bif bsB xs then volW xs else 0
def enB (xs : List Int) (n : Int) : Bool := bsB xs && decide (0 ≤ n) && decide (n < volW xs)
def enD (xs : List Int) (n : Int) : List Int := bif enB xs n then plN xs n.toNat else []
def deB (xs ds : List Int) : Bool := bsB xs && isPl xs ds
def deV (xs ds : List Int) : Int := bif deB xs ds then offW xs ds 0 else -1
def posB (xs : List Int) : Bool := allB xs 1 1000 && decide (xs.length ≤ 1000)
def vcB (sh da : List Int) : Bool := validA sh da && decide (sh.length = 1)
/-- Steps of a polynomial. -/
def poF (x : Int) : List Int → Int → Int
  | [], n => n
  | c :: cs, n => poF x cs (limV (IntKind.wrap .i64 (limV (IntKind.wrap .i64 (n * x)) + c)))
def poB (sh da : List Int) (x : Int) : Bool := vcB sh da && numB x
def poV (sh da : List Int) (x : Int) : Int := bif poB sh da x then poF x da 0 else 0
/-- Digits to the base 2. -/
def btL (n : Nat) : List Int := plN (List.replicate (Nat.log2 n + 1) 2) n
def btB (n : Int) : Bool := decide (0 ≤ n) && decide (n ≤ 1000000)
def btS (n : Int) : List Int := bif btB n then [((Nat.log2 n.toNat + 1 : Nat) : Int)] else []
def btD (n : Int) : List Int := bif btB n then btL n.toNat else []
/-- Cells. -/
def ceB (sh da : List Int) (n : Int) : Bool := axB sh da 0 && decide (0 ≤ n) && decide (n < ((lenN sh 0 : Nat) : Int))
def ceN (sh da : List Int) (n : Nat) : List Int := (da.drop (n * behN sh 0)).take (behN sh 0)
def ceS (sh da : List Int) (n : Int) : List Int := bif ceB sh da n then sh.drop 1 else []
def ceD (sh da : List Int) (n : Int) : List Int := bif ceB sh da n then ceN sh da n.toNat else []
/-- Places of numbers that are not 0. -/
def whC (da : List Int) : Nat → List Int
  | 0 => []
  | n + 1 => bif da.getD n 0 == 0 then whC da n else whC da n ++ [(n : Int)]
def whS (sh da : List Int) : List Int := bif vcB sh da then [(((whC da da.length).length : Nat) : Int)] else []
def whD (sh da : List Int) : List Int := bif vcB sh da then whC da da.length else []
/-- Numbers, each once. -/
def uqC (da : List Int) : Nat → List Int
  | 0 => []
  | n + 1 => bif (uqC da n).contains (da.getD n 0) then uqC da n else uqC da n ++ [da.getD n 0]
def uqS (sh da : List Int) : List Int := bif vcB sh da then [(((uqC da da.length).length : Nat) : Int)] else []
def uqD (sh da : List Int) : List Int := bif vcB sh da then uqC da da.length else []
/-- Picked and found. -/
def pkN (da pl : List Int) : List Int := tab pl.length fun i => da.getD (pl.getD i 0).toNat 0
def pkB (sh da s2 d2 : List Int) : Bool := vcB sh da && validA s2 d2 && allB d2 0 (((da.length : Nat) : Int) - 1)
def pkS (sh da s2 d2 : List Int) : List Int := bif pkB sh da s2 d2 then s2 else []
def pkD (sh da s2 d2 : List Int) : List Int := bif pkB sh da s2 d2 then pkN da d2 else []
def fiN (da wh : List Int) : List Int := tab wh.length fun i => ((da.idxOf (wh.getD i 0) : Nat) : Int)
def fiB (sh da s2 d2 : List Int) : Bool := vcB sh da && validA s2 d2
def fiS (sh da s2 d2 : List Int) : List Int := bif fiB sh da s2 d2 then s2 else []
def fiD (sh da s2 d2 : List Int) : List Int := bif fiB sh da s2 d2 then fiN da d2 else []
/-- Joined. -/
def joC (x y : Nat) (da db : List Int) : Nat → List Int
  | 0 => []
  | n + 1 => joC x y da db n ++ (da.drop (n * x)).take x ++ (db.drop (n * y)).take y
def joSh (sa sb : List Int) (k : Nat) : List Int := sa.set k (sa.getD k 0 + sb.getD k 0)
def joB (sa da sb db : List Int) (k : Int) : Bool := axB sa da k && axB sb db k && decide (sa.set k.toNat (sb.getD k.toNat 0) = sb) && validS (joSh sa sb k.toNat)
def joN (sa da sb db : List Int) (k : Nat) : List Int := joC (lenN sa k * behN sa k) (lenN sb k * behN sa k) da db (befN sa k)
def joS (sa da sb db : List Int) (k : Int) : List Int := bif joB sa da sb db k then joSh sa sb k.toNat else []
def joD (sa da sb db : List Int) (k : Int) : List Int := bif joB sa da sb db k then joN sa da sb db k.toNat else []
def stB (sa da sb db : List Int) : Bool := validA sa da && validA sb db && decide (sa = sb) && validS (2 :: sa)
def stS (sa da sb db : List Int) : List Int := bif stB sa da sb db then 2 :: sa else []
def stD (sa da sb db : List Int) : List Int := bif stB sa da sb db then da ++ db else []
/-- Repeated and expanded. -/
def rpC (ts : List Int) : Nat → List Int
  | 0 => []
  | n + 1 => rpC ts n ++ List.replicate (ts.getD n 0).toNat (n : Int)
def rpL (ts : List Int) : List Int := rpC ts ts.length
def rpB (sh da : List Int) (k : Int) (ts : List Int) : Bool := axB sh da k && decide (ts.length = lenN sh k.toNat) && allB ts 0 60 && validS (alS sh k (rpL ts))
def rpS (sh da : List Int) (k : Int) (ts : List Int) : List Int := bif rpB sh da k ts then alS sh k (rpL ts) else []
def rpD (sh da : List Int) (k : Int) (ts : List Int) : List Int := bif rpB sh da k ts then alA sh da k (rpL ts) else []
def exN (mk : List Int) : Nat → Nat
  | 0 => 0
  | n + 1 => bif mk.getD n 0 == 1 then exN mk n + 1 else exN mk n
def exL (mk : List Int) : List Int := tab mk.length fun i => bif mk.getD i 0 == 1 then ((exN mk i : Nat) : Int) else -1
def exB (sh da : List Int) (k : Int) (mk : List Int) : Bool := axB sh da k && allB mk 0 1 && decide (exN mk mk.length = lenN sh k.toNat) && validS (alS sh k (exL mk))
def exS (sh da : List Int) (k : Int) (mk : List Int) : List Int := bif exB sh da k mk then alS sh k (exL mk) else []
def exD (sh da : List Int) (k : Int) (mk : List Int) : List Int := bif exB sh da k mk then alA sh da k (exL mk) else []
/-- What a list of places shows. -/
def lsI (ls : List Int) (i : Int) : Int := ls.getD i.toNat 0
def lsB (ls : List Int) (i : Int) : Bool := decide (0 ≤ i) && decide (i < ((ls.length : Nat) : Int))
def lsQ (ls : List Int) : List Q → Bool | [.i i] => lsB ls i | _ => false
def wpS (sh : List Int) (k : Int) (ls : List Int) : List Int := cpS sh k ((ls.length : Nat) : Int)
def wpD (sh da : List Int) (k : Int) (ls : List Int) : List Int := cpD sh da k ((ls.length : Nat) : Int) (q1v (lsI ls))
def wpB (sh : List Int) (k : Int) (ls : List Int) : Bool := cpB sh k ((ls.length : Nat) : Int)
end Go.Ab
namespace Go.Ab
theorem posB_inv {xs : List Int} (h : posB xs = true) : xs.length ≤ 1000 ∧ ∀ k, k < xs.length → xs.getD k 0 = ((lenN xs k : Nat) : Int) ∧ 1 ≤ lenN xs k ∧ lenN xs k ≤ 1000 := by
  simp only [posB, Bool.and_eq_true, decide_eq_true_eq] at h
  refine ⟨h.2, fun k hk => ?_⟩
  have := allB_get h.1 hk
  simp only [lenN]
  omega
theorem volFrom_prodB {xs : List Int} (h : allB xs 1 1000 = true) : ∀ n : Nat, n * 1000 ^ xs.length ≤ 1000000000000000000 → volFrom xs (n : Int) = ((n * prodN xs : Nat) : Int) ∧ prodN xs ≤ 1000 ^ xs.length ∧ 1 ≤ prodN xs := by
  induction xs with
  | nil => intro n _; simp [volFrom, prodN]
  | cons x xs ih =>
    intro n hp
    have ha := allB_iff.1 h
    have h1 := ha x (by simp)
    have h2 : allB xs 1 1000 = true := allB_iff.2 fun v hv => ha v (by simp [hv])
    have e : (n : Int) * x = ((n * x.toNat : Nat) : Int) := by
      rw [Int.natCast_mul, Int.toNat_of_nonneg (by omega)]
    have hx : n * x.toNat ≤ n * 1000 := Nat.mul_le_mul_left _ (by omega)
    have h60 : 1 ≤ 1000 ^ xs.length := Nat.one_le_pow _ _ (by omega)
    simp only [List.length_cons, Nat.pow_succ] at hp ⊢
    have e2 : n * (1000 ^ xs.length * 1000) = n * 1000 * 1000 ^ xs.length := by rw [Nat.mul_comm (1000 ^ xs.length), Nat.mul_assoc]
    have hb : n * 1000 ≤ 1000000000000000000 := by
      have : n * 1000 * 1 ≤ n * 1000 * 1000 ^ xs.length := Nat.mul_le_mul_left _ h60
      omega
    have hq : n * x.toNat * 1000 ^ xs.length ≤ n * 1000 * 1000 ^ xs.length := Nat.mul_le_mul_right _ hx
    obtain ⟨i1, i2, i3⟩ := ih h2 (n * x.toNat) (by omega)
    simp only [volFrom, prodN]
    rw [e, wS (by omega) (by omega), i1, Nat.mul_assoc]
    refine ⟨rfl, ?_, ?_⟩
    · rw [Nat.mul_comm (1000 ^ xs.length)]
      exact Nat.mul_le_mul (by omega) i2
    · have : 1 * 1 ≤ x.toNat * prodN xs := Nat.mul_le_mul (by omega) i3
      omega
theorem bsB_inv {xs : List Int} (h : bsB xs = true) : 1 ≤ xs.length ∧ xs.length ≤ 6 ∧ allB xs 1 1000 = true ∧ volW xs = ((prodN xs : Nat) : Int) ∧ prodN xs ≤ 1000000 ∧ 1 ≤ prodN xs ∧ posB xs = true := by
  simp only [bsB, Bool.and_eq_true, decide_eq_true_eq] at h
  obtain ⟨⟨⟨h1, h2⟩, h3⟩, h4⟩ := h
  have hp : 1000 ^ xs.length ≤ 1000 ^ 6 := Nat.pow_le_pow_right (by omega) h2
  obtain ⟨q1, q2, q3⟩ := volFrom_prodB h3 1 (by rw [Nat.one_mul]; exact hp)
  rw [Nat.one_mul] at q1
  have e : volW xs = ((prodN xs : Nat) : Int) := q1
  refine ⟨h1, h2, h3, e, by omega, q3, ?_⟩
  simp only [posB, h3, Bool.true_and, decide_eq_true_eq]
  omega
theorem vcB_inv {sh da : List Int} (h : vcB sh da = true) : validA sh da = true ∧ sh = [((da.length : Nat) : Int)] ∧ da.length ≤ 60 ∧ allB da (-1000000) 1000000 = true := by
  simp only [vcB, Bool.and_eq_true, decide_eq_true_eq] at h
  obtain ⟨hv, hl⟩ := h
  have hA := validA_inv hv
  match sh, hl with
  | [a], _ =>
    have h1 := hA.2.1
    obtain ⟨q1, q2, q3⟩ := validS_inv hA.1
    have h2 := allB_iff.1 q2 a (by simp)
    have h3 : volW [a] = a := by
      show IntKind.wrap .i64 (1 * a) = a
      rw [Int.one_mul, wS (by omega) (by omega)]
    rw [h3] at h1 q3
    exact ⟨hv, by rw [h1], by omega, hA.2.2⟩
theorem vcB_of {xs : List Int} (h : vecOk xs = true) : vcB [((xs.length : Nat) : Int)] xs = true := by
  simp only [vcB, validA_vec h, Bool.true_and]
  rfl
theorem vec_part {xs : List Int} (hl : xs.length ≤ 60) (h : ∀ x ∈ xs, -1000000 ≤ x ∧ x ≤ 1000000) : vecOk xs = true := by
  simp only [vecOk, Bool.and_eq_true, decide_eq_true_eq]
  exact ⟨hl, allB_iff.2 h⟩
theorem vecOk_inv {xs : List Int} (h : vecOk xs = true) : xs.length ≤ 60 ∧ ∀ x ∈ xs, -1000000 ≤ x ∧ x ≤ 1000000 := by
  simp only [vecOk, Bool.and_eq_true, decide_eq_true_eq] at h
  exact ⟨h.1, allB_iff.1 h.2⟩
def len8T : ByteArray := ⟨#[0,1,2,2,3,3,3,3,4,4,4,4,4,4,4,4,5,5,5,5,5,5,5,5,5,5,5,5,5,5,5,5,6,6,6,6,6,6,6,6,6,6,6,6,6,6,6,6,6,6,6,6,6,6,6,6,6,6,6,6,6,6,6,6,7,7,7,7,7,7,7,7,7,7,7,7,7,7,7,7,7,7,7,7,7,7,7,7,7,7,7,7,7,7,7,7,7,7,7,7,7,7,7,7,7,7,7,7,7,7,7,7,7,7,7,7,7,7,7,7,7,7,7,7,7,7,7,7,8,8,8,8,8,8,8,8,8,8,8,8,8,8,8,8,8,8,8,8,8,8,8,8,8,8,8,8,8,8,8,8,8,8,8,8,8,8,8,8,8,8,8,8,8,8,8,8,8,8,8,8,8,8,8,8,8,8,8,8,8,8,8,8,8,8,8,8,8,8,8,8,8,8,8,8,8,8,8,8,8,8,8,8,8,8,8,8,8,8,8,8,8,8,8,8,8,8,8,8,8,8,8,8,8,8,8,8,8,8,8,8,8,8,8,8,8,8,8,8,8,8,8,8,8,8,8,8]⟩
/-- The number of bits, 0 for 0. -/
def bitN (n : Nat) : Nat := if n = 0 then 0 else Nat.log2 n + 1
theorem len8_fin : ∀ i : Fin 256, (len8T[i.1]?).map UInt8.toNat = some (bitN i.1) := by decide +kernel
theorem len8_get {i : Nat} (h : i < 256) : ∃ b : UInt8, len8T[i]? = some b ∧ b.toNat = bitN i := by
  have := len8_fin ⟨i, h⟩
  simp only [Option.map_eq_some_iff] at this
  obtain ⟨b, h1, h2⟩ := this
  exact ⟨b, h1, h2⟩
theorem log2_half {n : Nat} (h : 2 ≤ n) : Nat.log2 n = Nat.log2 (n / 2) + 1 := by
  rw [Nat.log2_def, if_pos h]
theorem log2_256 {n : Nat} (h : 256 ≤ n) : Nat.log2 n = Nat.log2 (n / 256) + 8 := by
  rw [log2_half (n := n) (by omega), log2_half (n := n / 2) (by omega), log2_half (n := n / 2 / 2) (by omega), log2_half (n := n / 2 / 2 / 2) (by omega), log2_half (n := n / 2 / 2 / 2 / 2) (by omega), log2_half (n := n / 2 / 2 / 2 / 2 / 2) (by omega), log2_half (n := n / 2 / 2 / 2 / 2 / 2 / 2) (by omega), log2_half (n := n / 2 / 2 / 2 / 2 / 2 / 2 / 2) (by omega)]
  rw [show n / 2 / 2 / 2 / 2 / 2 / 2 / 2 / 2 = n / 256 by omega]
theorem bitN_256 {n : Nat} (h : 256 ≤ n) : bitN n = bitN (n / 256) + 8 := by
  unfold bitN
  rw [if_neg (by omega), if_neg (by omega), log2_256 h]
theorem fdivN (n k : Nat) : Int.fdiv (n : Int) (k : Int) = ((n / k : Nat) : Int) := by
  rw [Int.fdiv_eq_ediv_of_nonneg _ (by omega)]; rfl
/-- Digits to the base 2. -/
theorem prod_rep (n : Nat) : prodN (List.replicate n (2 : Int)) = 2 ^ n := by
  induction n with
  | zero => rfl
  | succ n ih =>
    simp only [List.replicate_succ, prodN, ih, Nat.pow_succ]
    rw [Nat.mul_comm]; rfl
theorem bt_get {n : Nat} : btL n = tab (Nat.log2 n + 1) fun k => ((n / 2 ^ (Nat.log2 n - k) % 2 : Nat) : Int) := by
  unfold btL plN
  rw [List.length_replicate]
  refine tab_congr fun k hk => ?_
  have e1 : behN (List.replicate (Nat.log2 n + 1) (2 : Int)) k = 2 ^ (Nat.log2 n - k) := by
    unfold behN
    rw [List.drop_replicate, prod_rep]
    congr 1
    omega
  have e2 : lenN (List.replicate (Nat.log2 n + 1) (2 : Int)) k = 2 := by
    simp [lenN, hk]
  rw [e1, e2]
theorem bt_step {n : Nat} (h : 1 < n) : btL n = btL (n / 2) ++ [((n % 2 : Nat) : Int)] := by
  rw [bt_get, bt_get, log2_half (by omega), tab_succ]
  congr 1
  · refine tab_congr fun k hk => ?_
    rw [show Nat.log2 (n / 2) + 1 - k = (Nat.log2 (n / 2) - k) + 1 by omega, Nat.pow_succ, Nat.mul_comm, Nat.div_div_eq_div_mul]
  · rw [Nat.sub_self]; simp
theorem bt_small {n : Nat} (h : n ≤ 1) : btL n = [(n : Int)] := by
  match n, h with
  | 0, _ => rfl
  | 1, _ => rfl
theorem btL_length (n : Nat) : (btL n).length = Nat.log2 n + 1 := by rw [bt_get, tab_length]
theorem log2_le {n : Nat} (h : n ≤ 1000000) : Nat.log2 n ≤ 19 := by
  by_cases h0 : n = 0
  · subst h0; decide
  · have : Nat.log2 n < 20 := (Nat.log2_lt h0).2 (by omega)
    omega
theorem btL_mem {n : Nat} {x : Int} (h : x ∈ btL n) : x = 0 ∨ x = 1 := by
  rw [bt_get] at h
  obtain ⟨i, _, rfl⟩ := tab_mem h
  omega
theorem wU0 {n : Nat} (h : n ≤ 9223372036854775807) : IntKind.wrap .u64 (n : Int) = (n : Int) := by rw [IntKind.wrap_u64]; omega
theorem cut_both {n a b : Nat} (h1 : a ≤ b) (h2 : b ≤ n) : cutEnds n (some (.imm (.int .i64 (a : Int)))) (some (.imm (.int .i64 (b : Int)))) = some (a, b) := by
  have : (0 : Int) ≤ (b : Int) ∧ (b : Int) ≤ (n : Int) := by omega
  have : (0 : Int) ≤ (a : Int) ∧ (a : Int) ≤ (b : Int) := by omega
  simp [cutEnds, h1, h2]
theorem axB_zero {sh da : List Int} (h : axB sh da 0 = true) : 0 < sh.length ∧ validA sh da = true ∧ Ax sh 0 ∧ da.length = lenN sh 0 * behN sh 0 ∧ axL sh da 0 = ((lenN sh 0 : Nat) : Int) := by
  obtain ⟨j, hj0, hj, hv, ax, hd, hl⟩ := axB_inv h
  obtain rfl : j = 0 := by omega
  have : befN sh 0 = 1 := rfl
  rw [this, Nat.one_mul] at hd
  exact ⟨hj, hv, ax, hd, hl⟩
theorem ceB_inv {sh da : List Int} {n : Int} (h : ceB sh da n = true) : ∃ j : Nat, n = j ∧ j < lenN sh 0 ∧ axB sh da 0 = true ∧ (j + 1) * behN sh 0 ≤ da.length := by
  simp only [ceB, Bool.and_eq_true, decide_eq_true_eq] at h
  obtain ⟨⟨h1, h2⟩, h3⟩ := h
  obtain ⟨_, _, _, hd, _⟩ := axB_zero h1
  refine ⟨n.toNat, by omega, by omega, h1, ?_⟩
  rw [hd]
  exact Nat.mul_le_mul_right _ (by omega)
theorem ce_cut {M j : Nat} : (j + 1) * M - j * M = M := by
  rw [Nat.add_mul, Nat.one_mul]; omega
theorem contains_iff {xs : List Int} {v : Int} : xs.contains v = true ↔ v ∈ xs := by simp
theorem idxI_ge {xs : List Int} {v : Int} : decide (idxI xs v ≥ 0) = xs.contains v := by
  unfold idxI
  cases h : xs.contains v <;> simp
theorem idxOf_miss {xs : List Int} {v : Int} (h : xs.contains v = false) : xs.idxOf v = xs.length := by
  have : v ∉ xs := by
    intro hm; rw [contains_iff.2 hm] at h; cases h
  exact List.idxOf_eq_length this
theorem idx_of_i {xs : List Int} {v : Int} : (bif decide (idxI xs v < 0) then ((xs.length : Nat) : Int) else idxI xs v) = ((xs.idxOf v : Nat) : Int) := by
  rw [idxI_neg]
  unfold idxI
  cases h : xs.contains v with
  | false => simp only [Bool.not_false, cond_true]; rw [idxOf_miss h]
  | true => simp only [Bool.not_true, cond_false, cond_true]
theorem allB_inv {xs : List Int} {lo hi : Int} (h : allB xs lo hi = true) {i : Nat} (hi' : i < xs.length) : lo ≤ xs.getD i 0 ∧ xs.getD i 0 ≤ hi := allB_get h hi'
theorem pkN_length (da pl : List Int) : (pkN da pl).length = pl.length := tab_length _ _
theorem fiN_length (da pl : List Int) : (fiN da pl).length = pl.length := tab_length _ _
theorem whC_len (da : List Int) : ∀ n, (whC da n).length ≤ n
  | 0 => Nat.le_refl _
  | n + 1 => by
    have := whC_len da n
    simp only [whC]
    cases (da.getD n 0 == 0) <;> simp only [cond_true, cond_false, List.length_append, List.length_singleton] <;> omega
theorem whC_mem (da : List Int) : ∀ n x, x ∈ whC da n → 0 ≤ x ∧ x < (n : Int)
  | 0, x, h => by simp [whC] at h
  | n + 1, x, h => by
    have ih := whC_mem da n x
    simp only [whC] at h
    cases hc : (da.getD n 0 == 0) with
    | true =>
      rw [hc] at h
      have := ih h
      omega
    | false =>
      rw [hc] at h
      simp only [cond_false, List.mem_append, List.mem_singleton] at h
      rcases h with h | h
      · have := ih h
        omega
      · omega
theorem uqC_len (da : List Int) : ∀ n, (uqC da n).length ≤ n
  | 0 => Nat.le_refl _
  | n + 1 => by
    have := uqC_len da n
    simp only [uqC]
    cases ((uqC da n).contains (da.getD n 0)) <;> simp only [cond_true, cond_false, List.length_append, List.length_singleton] <;> omega
theorem uqC_mem (da : List Int) : ∀ n, n ≤ da.length → ∀ x, x ∈ uqC da n ↔ x ∈ da.take n
  | 0, _, x => by simp [uqC]
  | n + 1, hn, x => by
    have ih := uqC_mem da n (by omega) x
    have e : da.take (n + 1) = da.take n ++ [da.getD n 0] := (take_push (by omega) rfl).symm
    rw [e, List.mem_append, List.mem_singleton, ← ih]
    simp only [uqC]
    cases hc : (uqC da n).contains (da.getD n 0) with
    | true =>
      simp only [cond_true]
      constructor
      · exact .inl
      · rintro (h | rfl)
        · exact h
        · exact contains_iff.1 hc
    | false =>
      simp only [cond_false, List.mem_append, List.mem_singleton]
theorem idxOf_lt_iff {xs : List Int} {v : Int} {n : Nat} (hn : n < xs.length) (hv : xs.getD n 0 = v) : xs.idxOf v = n ↔ (xs.take n).contains v = false := by
  constructor
  · intro h
    rw [Bool.eq_false_iff]
    intro hc
    have hm := contains_iff.1 hc
    have h1 : xs.take n ++ xs.drop n = xs := List.take_append_drop n xs
    have h2 : xs.idxOf v = (xs.take n).idxOf v := by
      conv => lhs; rw [← h1]
      rw [List.idxOf_append, if_pos hm]
    have h3 : (xs.take n).idxOf v < (xs.take n).length := List.idxOf_lt_length_iff.2 hm
    rw [List.length_take] at h3
    omega
  · intro h
    refine idxOf_at hn (fun i hi he => ?_) hv
    have : v ∈ xs.take n := by
      rw [← he]
      have hl : i < (xs.take n).length := by rw [List.length_take]; omega
      have : (xs.take n).getD i 0 = xs.getD i 0 := by simp [hi]
      rw [← this]
      exact mem_getD hl
    rw [contains_iff.2 this] at h
    cases h
theorem vec_of_sub {da xs : List Int} (hl : da.length ≤ 60) (h : allB da (-1000000) 1000000 = true) (hx : xs.length ≤ da.length) (hm : ∀ x ∈ xs, x ∈ da) : vecOk xs = true :=
  vec_part (by omega) fun x hx' => allB_iff.1 h x (hm x hx')
theorem vecOk_eq {xs : List Int} (h : vecOk xs = true) : vecS xs = [((xs.length : Nat) : Int)] ∧ vecD xs = xs := by
  simp only [vecS, vecD, h, cond_true, and_self]
end Go.Ab
namespace Go.Ab
theorem en_len (xs : List Int) (n : Int) : (enD xs n).length ≤ 6 := by
  unfold enD
  cases h : enB xs n with
  | false => simp
  | true =>
    simp only [enB, Bool.and_eq_true] at h
    have := (bsB_inv h.1.1).2.1
    simp only [cond_true, plN_length]
    exact this
theorem bt_len (n : Int) : (btS n).length ≤ 1 ∧ (btD n).length ≤ 60 := by
  unfold btS btD
  cases h : btB n with
  | false => simp
  | true =>
    simp only [btB, Bool.and_eq_true, decide_eq_true_eq] at h
    have := log2_le (n := n.toNat) (by omega)
    simp only [cond_true, btL_length, List.length_singleton]
    omega
theorem ce_len (sh da : List Int) (n : Int) : (ceS sh da n).length ≤ 3 ∧ (ceD sh da n).length ≤ 60 := by
  unfold ceS ceD
  cases h : ceB sh da n with
  | false => simp
  | true =>
    obtain ⟨j, rfl, hj2, hx, hle⟩ := ceB_inv h
    obtain ⟨_, hv, _, _, _⟩ := axB_zero hx
    have := validA_len hv
    simp only [cond_true, List.length_drop, ceN, List.length_take]
    omega
theorem wh_len (sh da : List Int) : (whS sh da).length ≤ 1 ∧ (whD sh da).length ≤ 60 := by
  unfold whS whD
  cases h : vcB sh da with
  | false => simp
  | true =>
    have := whC_len da da.length
    obtain ⟨_, _, hl, _⟩ := vcB_inv h
    simp only [cond_true, List.length_singleton]
    omega
theorem uq_len (sh da : List Int) : (uqS sh da).length ≤ 1 ∧ (uqD sh da).length ≤ 60 := by
  unfold uqS uqD
  cases h : vcB sh da with
  | false => simp
  | true =>
    have := uqC_len da da.length
    obtain ⟨_, _, hl, _⟩ := vcB_inv h
    simp only [cond_true, List.length_singleton]
    omega
theorem pk_len (sh da s2 d2 : List Int) : (pkS sh da s2 d2).length ≤ 3 ∧ (pkD sh da s2 d2).length ≤ 60 := by
  unfold pkS pkD
  cases h : pkB sh da s2 d2 with
  | false => simp
  | true =>
    simp only [pkB, Bool.and_eq_true] at h
    have := validA_len h.1.2
    simp only [cond_true, pkN_length]
    omega
theorem fi_len (sh da s2 d2 : List Int) : (fiS sh da s2 d2).length ≤ 3 ∧ (fiD sh da s2 d2).length ≤ 60 := by
  unfold fiS fiD
  cases h : fiB sh da s2 d2 with
  | false => simp
  | true =>
    simp only [fiB, Bool.and_eq_true] at h
    have := validA_len h.2
    simp only [cond_true, fiN_length]
    omega
/-- Joined. -/
theorem set_iff {sa sb : List Int} {j : Nat} (h1 : j < sa.length) (h2 : j < sb.length) : (sa.set j (sb.getD j 0) = sb) ↔ (sa.eraseIdx j = sb.eraseIdx j ∧ sa.length = sb.length) := by
  constructor
  · intro h
    constructor
    · conv => rhs; rw [← h]
      rw [List.eraseIdx_set_eq]
    · have := congrArg List.length h
      simpa using this
  · rintro ⟨h, hl⟩
    rw [← erase_eq, ← erase_eq] at h
    have hi := List.append_inj h (by simp; omega)
    rw [List.set_eq_take_append_cons_drop, if_pos h1, hi.1, hi.2]
    exact (split_ax h2).symm
theorem joC_len {x y : Nat} {da db : List Int} : ∀ n, n * x ≤ da.length → n * y ≤ db.length → (joC x y da db n).length = n * (x + y)
  | 0, _, _ => by simp [joC]
  | n + 1, h1, h2 => by
    rw [Nat.add_mul, Nat.one_mul] at h1 h2
    have ih := joC_len (x := x) (y := y) (da := da) (db := db) n (by omega) (by omega)
    simp only [joC, List.length_append, ih, List.length_take, List.length_drop]
    rw [Nat.add_mul n 1, Nat.one_mul]
    omega
structure JoOk (sa da sb db : List Int) (j : Nat) : Prop where
  la : j < sa.length
  lb : j < sb.length
  va : validA sa da = true
  vb : validA sb db = true
  xa : Ax sa j
  xb : Ax sb j
  eqs : sa.set j (sb.getD j 0) = sb
  bef : befN sb j = befN sa j
  beh : behN sb j = behN sa j
  da : da.length = befN sa j * (lenN sa j * behN sa j)
  db : db.length = befN sa j * (lenN sb j * behN sa j)
  sh : joSh sa sb j = sa.set j ((lenN sa j + lenN sb j : Nat) : Int)
  vs : validS (joSh sa sb j) = true
  vol : volW (joSh sa sb j) = ((befN sa j * (lenN sa j * behN sa j + lenN sb j * behN sa j) : Nat) : Int)
  le : befN sa j * (lenN sa j * behN sa j + lenN sb j * behN sa j) ≤ 60
theorem joB_inv {sa da sb db : List Int} {k : Int} (h : joB sa da sb db k = true) : ∃ j : Nat, k = j ∧ JoOk sa da sb db j := by
  simp only [joB, Bool.and_eq_true, decide_eq_true_eq] at h
  obtain ⟨⟨⟨h1, h2⟩, h3⟩, h4⟩ := h
  obtain ⟨j, rfl, hj, hv, ax, hd, hl⟩ := axB_inv h1
  obtain ⟨j2, e2, hj2, hv2, ax2, hd2, hl2⟩ := axB_inv h2
  obtain rfl : j = j2 := by omega
  rw [Int.toNat_natCast] at h3 h4
  have hb : befN sb j = befN sa j := by
    conv => lhs; rw [← h3]
    exact bef_set
  have hh : behN sb j = behN sa j := by
    conv => lhs; rw [← h3]
    exact beh_set
  have hs : joSh sa sb j = sa.set j ((lenN sa j + lenN sb j : Nat) : Int) := by
    unfold joSh
    rw [ax.len, ax2.len, Int.natCast_add]
  have hj3 : j < (joSh sa sb j).length := by rw [hs, List.length_set]; exact hj
  have ax3 := ax_of h4 hj3
  have e1 : befN (joSh sa sb j) j = befN sa j := by rw [hs]; exact bef_set
  have e2 : behN (joSh sa sb j) j = behN sa j := by rw [hs]; exact beh_set
  have e3 : lenN (joSh sa sb j) j = lenN sa j + lenN sb j := by rw [hs, len_set hj, Int.toNat_natCast]
  have e4 : befN sa j * (lenN sa j + lenN sb j) * behN sa j = befN sa j * (lenN sa j * behN sa j + lenN sb j * behN sa j) := by
    rw [Nat.mul_assoc, Nat.add_mul]
  have hvol := ax3.vol
  have hle := ax3.le
  rw [e1, e2, e3, e4] at hvol hle
  exact ⟨j, rfl, hj, hj2, hv, hv2, ax, ax2, h3, hb, hh, by rw [hd, Nat.mul_assoc], by rw [hd2, hb, hh, Nat.mul_assoc], hs, h4, hvol, hle⟩
theorem jo_len (sa da sb db : List Int) (k : Int) : (joS sa da sb db k).length ≤ 3 ∧ (joD sa da sb db k).length ≤ 60 := by
  unfold joS joD
  cases h : joB sa da sb db k with
  | false => simp
  | true =>
    obtain ⟨j, rfl, o⟩ := joB_inv h
    have h1 := o.da
    have h2 := o.db
    have h3 := o.le
    have h4 := o.xa.rank
    have := joC_len (x := lenN sa j * behN sa j) (y := lenN sb j * behN sa j) (da := da) (db := db) (befN sa j) (by omega) (by omega)
    simp only [cond_true, Int.toNat_natCast, joN, this, o.sh, List.length_set]
    omega
theorem copy_zero {A ys : List Int} {K : Nat} (h : ys.length ≤ K) : copyL (A ++ List.replicate K 0) A.length K ys = A ++ ys ++ List.replicate (K - ys.length) 0 := by
  unfold copyL spl
  rw [Nat.min_eq_left h, List.take_length, List.take_left' rfl, List.drop_append, List.drop_eq_nil_of_le (by omega), List.nil_append, List.drop_replicate]
  congr 2
  omega
theorem st_len (sa da sb db : List Int) : (stS sa da sb db).length ≤ 3 ∧ (stD sa da sb db).length ≤ 120 := by
  unfold stS stD
  cases h : stB sa da sb db with
  | false => simp
  | true =>
    simp only [stB, Bool.and_eq_true] at h
    have h1 := validA_len h.1.1.1
    have h2 := validA_len h.1.1.2
    have h3 := (validS_inv h.2).1
    simp only [cond_true, List.length_append]
    omega
/-- Repeated. -/
theorem rpC_bd {ts : List Int} (h : allB ts 0 60 = true) : ∀ n, n ≤ ts.length → (rpC ts n).length ≤ n * 60 ∧ ∀ x ∈ rpC ts n, 0 ≤ x ∧ x < (n : Int)
  | 0, _ => by simp [rpC]
  | n + 1, hn => by
    obtain ⟨i1, i2⟩ := rpC_bd h n (by omega)
    have ht := allB_inv h (i := n) (by omega)
    refine ⟨?_, fun x hx => ?_⟩
    · simp only [rpC, List.length_append, List.length_replicate]
      omega
    · simp only [rpC, List.mem_append, List.mem_replicate] at hx
      rcases hx with hx | ⟨_, rfl⟩
      · have := i2 x hx; omega
      · omega
theorem rpB_inv {sh da : List Int} {k : Int} {ts : List Int} (h : rpB sh da k ts = true) : ∃ j : Nat, k = j ∧ j < sh.length ∧ validA sh da = true ∧ Ax sh j ∧ ts.length = lenN sh j ∧ allB ts 0 60 = true ∧ validS (alS sh j (rpL ts)) = true := by
  simp only [rpB, Bool.and_eq_true, decide_eq_true_eq] at h
  obtain ⟨⟨⟨h1, h2⟩, h3⟩, h4⟩ := h
  obtain ⟨j, rfl, hj, hv, ax, hd, hl⟩ := axB_inv h1
  rw [Int.toNat_natCast] at h2
  exact ⟨j, rfl, hj, hv, ax, h2, h3, h4⟩
theorem rp_len (sh da : List Int) (k : Int) (ts : List Int) : (rpS sh da k ts).length ≤ 3 ∧ (rpD sh da k ts).length ≤ 60 := by
  unfold rpS rpD
  cases h : rpB sh da k ts with
  | false => simp
  | true =>
    obtain ⟨j, rfl, hj, hv, ax, h2, h3, h4⟩ := rpB_inv h
    exact al_len da hj h4
/-- Expanded. -/
theorem exN_le (mk : List Int) : ∀ n, exN mk n ≤ n
  | 0 => Nat.le_refl _
  | n + 1 => by
    have := exN_le mk n
    simp only [exN]
    cases (mk.getD n 0 == 1) <;> simp only [cond_true, cond_false] <;> omega
theorem exN_mono (mk : List Int) (a : Nat) : ∀ b, exN mk a ≤ exN mk (a + b)
  | 0 => Nat.le_refl _
  | b + 1 => by
    have := exN_mono mk a b
    rw [← Nat.add_assoc]
    simp only [exN]
    cases (mk.getD (a + b) 0 == 1) <;> simp only [cond_true, cond_false] <;> omega
theorem exL_length (mk : List Int) : (exL mk).length = mk.length := tab_length _ _
theorem exL_mem {mk : List Int} {x : Int} (h : x ∈ exL mk) : x = -1 ∨ 0 ≤ x ∧ x < ((exN mk mk.length : Nat) : Int) := by
  obtain ⟨i, hi, rfl⟩ := tab_mem h
  cases hc : (mk.getD i 0 == 1) with
  | false => exact .inl rfl
  | true =>
    have h1 : exN mk (i + 1) = exN mk i + 1 := by simp only [exN, hc, cond_true]
    have h2 := exN_mono mk (i + 1) (mk.length - (i + 1))
    rw [show i + 1 + (mk.length - (i + 1)) = mk.length by omega] at h2
    simp only [cond_true]
    exact .inr (by omega)
theorem exB_inv {sh da : List Int} {k : Int} {mk : List Int} (h : exB sh da k mk = true) : ∃ j : Nat, k = j ∧ j < sh.length ∧ validA sh da = true ∧ Ax sh j ∧ exN mk mk.length = lenN sh j ∧ allB mk 0 1 = true ∧ validS (alS sh j (exL mk)) = true := by
  simp only [exB, Bool.and_eq_true, decide_eq_true_eq] at h
  obtain ⟨⟨⟨h1, h2⟩, h3⟩, h4⟩ := h
  obtain ⟨j, rfl, hj, hv, ax, hd, hl⟩ := axB_inv h1
  rw [Int.toNat_natCast] at h3
  exact ⟨j, rfl, hj, hv, ax, h3, h2, h4⟩
theorem ex_len (sh da : List Int) (k : Int) (mk : List Int) : (exS sh da k mk).length ≤ 3 ∧ (exD sh da k mk).length ≤ 60 := by
  unfold exS exD
  cases h : exB sh da k mk with
  | false => simp
  | true =>
    obtain ⟨j, rfl, hj, hv, ax, h2, h3, h4⟩ := exB_inv h
    exact al_len da hj h4
/-- What a view of a list of places copies. -/
theorem wp_eq {sh da ls : List Int} {j : Nat} (h : ∀ x ∈ ls, x = -1 ∨ 0 ≤ x ∧ x < ((lenN sh j : Nat) : Int)) :
    wpS sh (j : Int) ls = (bif validS (alS sh j ls) then alS sh j ls else []) ∧ wpD sh da (j : Int) ls = (bif validS (alS sh j ls) then alA sh da j ls else []) ∧ wpB sh (j : Int) ls = validS (alS sh j ls) := by
  have hc : cpL sh (j : Int) ((ls.length : Nat) : Int) (q1v (lsI ls)) = ls := by
    unfold cpL
    rw [Int.toNat_natCast, Int.toNat_natCast]
    refine (tab_ext rfl fun i hi => ?_).symm
    have := h _ (mem_getD hi)
    have hc : cpF (lenN sh j) (q1v (lsI ls)) i = bif decide (0 ≤ ls.getD i 0) && decide (ls.getD i 0 < ((lenN sh j : Nat) : Int)) then ls.getD i 0 else -1 := rfl
    rw [hc]
    by_cases h0 : 0 ≤ ls.getD i 0
    · rw [decide_eq_true h0, decide_eq_true (p := ls.getD i 0 < ((lenN sh j : Nat) : Int)) (by omega)]; rfl
    · rw [decide_eq_false h0]
      simp only [Bool.false_and, cond_false]
      omega
  unfold wpS wpD wpB cpS cpD cpB
  rw [hc]
  refine ⟨rfl, rfl, rfl⟩
theorem ls_dom (ls : List Int) : domB ((ls.length : Nat) : Int) (lsQ ls) = true := by
  simp only [domB, List.all_eq_true, Int.toNat_natCast, List.mem_range, lsQ, lsB, Bool.and_eq_true, decide_eq_true_eq]
  intro i hi
  omega
end Go.Ab
namespace Go.Ab
/-- Stacked. -/
theorem one_vol (sa : List Int) : volW (1 :: sa) = volW sa := rfl
theorem one_valid {sa da : List Int} (h : sa.length ≤ 2) : validA (1 :: sa) da = validA sa da := by
  unfold validA validS
  rw [one_vol, allB_cons, decide_eq_true (p := (0 : Int) ≤ 1) (by omega), decide_eq_true (p := (1 : Int) ≤ 60) (by omega), decide_eq_true (p := (((1 :: sa).length : Nat) : Int) ≤ 3) (by simp only [List.length_cons]; omega), decide_eq_true (p := ((sa.length : Nat) : Int) ≤ 3) (by omega)]
  rfl
theorem one_len {sa da : List Int} (h : validA (1 :: sa) da = true) : sa.length ≤ 2 := by
  have := (validA_len h).1
  simp only [List.length_cons] at this
  omega
theorem axB_one {sa da : List Int} : axB (1 :: sa) da 0 = validA (1 :: sa) da := by
  unfold axB axOk
  rw [decide_eq_true (p := (0 : Int) ≤ 0) (by omega), decide_eq_true (p := (0 : Int) < (((1 :: sa).length : Nat) : Int)) (by simp only [List.length_cons]; omega)]
  simp only [Bool.and_true]
theorem st_jo (sa da sb db : List Int) : joB (1 :: sa) da (1 :: sb) db 0 = stB sa da sb db ∧ joS (1 :: sa) da (1 :: sb) db 0 = stS sa da sb db ∧ joD (1 :: sa) da (1 :: sb) db 0 = stD sa da sb db := by
  have hs : joSh (1 :: sa) (1 :: sb) 0 = 2 :: sa := rfl
  have hb : joB (1 :: sa) da (1 :: sb) db 0 = stB sa da sb db := by
    rw [Bool.eq_iff_iff]
    unfold joB stB
    rw [axB_one, axB_one, show ((0 : Int).toNat) = 0 from rfl, hs, show (1 :: sa).set 0 ((1 :: sb).getD 0 0) = 1 :: sa from rfl]
    simp only [Bool.and_eq_true, decide_eq_true_eq]
    constructor
    · rintro ⟨⟨⟨h1, h2⟩, h3⟩, h4⟩
      have e : sa = sb := by simpa using h3
      rw [one_valid (one_len h1)] at h1
      rw [one_valid (one_len h2)] at h2
      exact ⟨⟨⟨h1, h2⟩, e⟩, h4⟩
    · rintro ⟨⟨⟨h1, h2⟩, h3⟩, h4⟩
      have hl := (validS_inv h4).1
      simp only [List.length_cons] at hl
      rw [one_valid (by omega), one_valid (by rw [← h3]; omega)]
      exact ⟨⟨⟨h1, h2⟩, by rw [h3]⟩, h4⟩
  refine ⟨hb, ?_, ?_⟩
  · unfold joS stS
    rw [hb]
    rfl
  · unfold joD stD
    rw [hb]
    cases hc : stB sa da sb db with
    | false => rfl
    | true =>
      simp only [stB, Bool.and_eq_true, decide_eq_true_eq] at hc
      obtain ⟨⟨⟨h1, h2⟩, h3⟩, h4⟩ := hc
      have e1 := data_prod h1
      have e2 := data_prod h2
      have e3 : lenN (1 :: sa) 0 = 1 := rfl
      have e4 : lenN (1 :: sb) 0 = 1 := rfl
      have e5 : behN (1 :: sa) 0 = prodN sa := rfl
      have e6 : befN (1 :: sa) 0 = 1 := rfl
      simp only [cond_true, joN, Int.toNat_zero]
      rw [e3, e4, e5, e6, Nat.one_mul]
      simp only [joC, List.nil_append, Nat.zero_mul, List.drop_zero]
      rw [List.take_of_length_le (by omega), List.take_of_length_le (by rw [e2, h3]; exact Nat.le_refl _)]
end Go.Ab
namespace Go.Ab
/-- Draws of stage 4. -/
def basL : List Int := [2, 10, 7, 60, 1, 3]
def encL : List Int := [0, 1, 5, 23, 100, 999, -1, 1000000]
def bitL : List Int := [0, 1, 2, 5, 255, 1000000, 1000001, -1, 12345]
def ctoL : List Int := [0, 1, 5, 60, 61, -1, 12]
def aBn (bs : List Int) (p : Int) : Nat := (oneV bs p [2, 3, 1, 4, 0, 6, 7]).toNat
def aB0 (bs : List Int) (p : Int) : List Int := tab (aBn bs p) fun i => oneV bs (p + 1 + ((i : Nat) : Int)) basL
def aBs (bs : List Int) (p : Int) : List Int := spV bs (p + 1 + ((aBn bs p : Nat) : Int)) (aB0 bs p) 1001
def aBsP (bs : List Int) (p : Int) : Int := spP bs (p + 1 + ((aBn bs p : Nat) : Int)) (aB0 bs p)
theorem aBn_bd {bs : List Int} {p : Int} (h : rdOk bs p = true) : aBn bs p ≤ 7 ∧ oneV bs p [2, 3, 1, 4, 0, 6, 7] = ((aBn bs p : Nat) : Int) := by
  have := oneV_mem h (xs := [2, 3, 1, 4, 0, 6, 7]) (by simp) (by simp)
  simp only [List.mem_cons, List.not_mem_nil, or_false] at this
  unfold aBn
  omega
theorem aBs_bd {bs : List Int} {p : Int} (h : rdOk bs p = true) : (aBs bs p).length ≤ 8 ∧ p + 1 ≤ aBsP bs p ∧ aBsP bs p ≤ p + 20 := by
  have h1 := (aBn_bd h).1
  have h2 := sp_len bs (p + 1 + ((aBn bs p : Nat) : Int)) (aB0 bs p) 1001
  have h3 := spP_bd bs (p + 1 + ((aBn bs p : Nat) : Int)) (aB0 bs p)
  have h4 : (aB0 bs p).length = aBn bs p := tab_length _ _
  unfold aBs aBsP
  omega
def dEn (bs : List Int) : Int := oneV bs (aBsP bs 0) encL
def dDd (bs : List Int) : List Int := aPl bs (aBsP bs 0) (aBs bs 0)
def dPx (bs : List Int) : Int := anyNumV bs (avP bs 0)
/-- Picked places. -/
def piQ (bs : List Int) : Int := sDaP bs (avP bs 0)
def piL (bs : List Int) : Nat := (sDaV bs (avP bs 0)).length
def pi0 (bs : List Int) : List Int := tab (piL bs) fun i => pickV bs (piQ bs + ((i : Nat) : Int)) (maxI 1 (((avD bs 0).length : Nat) : Int))
def piS (bs : List Int) : List Int := sShV bs (avP bs 0)
def piD (bs : List Int) : List Int := bif decide (0 < piL bs) then (bif pickV bs (piQ bs + ((piL bs : Nat) : Int)) 8 == 0 then (pi0 bs).set 0 (oneV bs (piQ bs + ((piL bs : Nat) : Int) + 1) [-1, (((avD bs 0).length : Nat) : Int), 1000001]) else pi0 bs) else pi0 bs
theorem pi_bd {bs : List Int} (h : rdOk bs 0 = true) : (piS bs).length ≤ 3 ∧ (piD bs).length = piL bs ∧ piL bs ≤ 60 ∧ 0 ≤ piQ bs ∧ piQ bs ≤ 1000 ∧ (avS bs 0).length ≤ 4 ∧ (avD bs 0).length ≤ 62 ∧ 0 ≤ avP bs 0 ∧ avP bs 0 ≤ 100 := by
  obtain ⟨a1, a2, a3, a4⟩ := av_bd h (by omega)
  have r1 := rd_le (q := avP bs 0) h (by omega) (by omega)
  obtain ⟨b1, b2, b3⟩ := sDa_bd r1 (by omega)
  have hs := sSh_len bs (avP bs 0)
  have hl : (pi0 bs).length = piL bs := tab_length _ _
  refine ⟨hs, ?_, b1, ?_, ?_, a1, a2, by omega, by omega⟩
  · unfold piD
    cases decide (0 < piL bs) with
    | false => exact hl
    | true =>
      cases pickV bs (piQ bs + ((piL bs : Nat) : Int)) 8 == 0 with
      | false => exact hl
      | true => simp only [cond_true, List.length_set]; exact hl
  · unfold piQ; omega
  · unfold piQ; omega
/-- Found numbers. -/
def fdC (bs : List Int) : Bool := pickV bs (avP bs 0) 2 == 0
def fdS (bs : List Int) : List Int := bif fdC bs then avS bs (avP bs 0 + 1) else aArS bs (avP bs 0 + 1)
def fdD (bs : List Int) : List Int := bif fdC bs then avD bs (avP bs 0 + 1) else aArD bs (avP bs 0 + 1)
theorem len_bif0 {b : Bool} {xs ys : List Int} {n : Nat} (h1 : b = true → xs.length ≤ n) (h2 : ys.length ≤ n) : (bif b then xs else ys).length ≤ n := by
  cases b
  · exact h2
  · exact h1 rfl
theorem fd_bd {bs : List Int} (h : rdOk bs 0 = true) : (fdS bs).length ≤ 4 ∧ (fdD bs).length ≤ 62 ∧ (avS bs 0).length ≤ 4 ∧ (avD bs 0).length ≤ 62 ∧ 0 ≤ avP bs 0 ∧ avP bs 0 ≤ 100 := by
  obtain ⟨a1, a2, a3, a4⟩ := av_bd h (by omega)
  have r1 := rd_le (q := avP bs 0 + 1) h (by omega) (by omega)
  obtain ⟨b1, b2, _, _⟩ := av_bd r1 (by omega)
  obtain ⟨c1, c2, _, _⟩ := aAr_bd r1 (by omega)
  exact ⟨len_bif0 (fun _ => b1) c1, len_bif0 (fun _ => b2) c2, a1, a2, by omega, by omega⟩
/-- Joined. -/
def djK (bs : List Int) : Int := dAx bs
def djB1 (bs : List Int) : Bool := axB (aArS bs 0) (aArD bs 0) (dAx bs)
def djQ (bs : List Int) : Bool := pickV bs (dAxP bs) 8 == 0
def djSh (bs : List Int) : List Int := (aArS bs 0).set (dAx bs).toNat (pickV bs (dAxP bs + 1) 5)
def djR (bs : List Int) (q : Int) : List Int × List Int := (aArS bs q, aArD bs q)
def djS (bs : List Int) : List Int := bif djB1 bs then (bif djQ bs then aArS bs (dAxP bs + 1) else bif validS (djSh bs) then djSh bs else aArS bs 0) else aArS bs (dAxP bs)
def djD (bs : List Int) : List Int := bif djB1 bs then (bif djQ bs then aArD bs (dAxP bs + 1) else bif validS (djSh bs) then fillV bs (dAxP bs + 1 + 1) (djSh bs) else aArD bs 0) else aArD bs (dAxP bs)
theorem fill_len {bs : List Int} {p : Int} {sh : List Int} (h : validS sh = true) : (fillV bs p sh).length ≤ 60 := by
  have := vol_bd h
  unfold fillV
  rw [tab_length]
  omega
theorem len_bif {b : Bool} {xs ys : List Int} {n : Nat} (h1 : b = true → xs.length ≤ n) (h2 : ys.length ≤ n) : (bif b then xs else ys).length ≤ n := by
  cases b
  · exact h2
  · exact h1 rfl
theorem dj_bd {bs : List Int} (h : rdOk bs 0 = true) : (djS bs).length ≤ 4 ∧ (djD bs).length ≤ 62 ∧ (aArS bs 0).length ≤ 4 ∧ (aArD bs 0).length ≤ 62 ∧ 0 ≤ dAxP bs ∧ dAxP bs ≤ 100 := by
  obtain ⟨a1, a2, a3, a4⟩ := aAr_bd h (by omega)
  have hx := aAxP_bd (aArP bs 0) (aArS bs 0)
  have e : dAxP bs = aAxP (aArP bs 0) (aArS bs 0) := rfl
  have r1 := rd_le (q := dAxP bs) h (by omega) (by omega)
  have r2 := rd_le (q := dAxP bs + 1) h (by omega) (by omega)
  obtain ⟨b1, b2, _, _⟩ := aAr_bd r1 (by omega)
  obtain ⟨c1, c2, _, _⟩ := aAr_bd r2 (by omega)
  have hs : (djSh bs).length = (aArS bs 0).length := by unfold djSh; rw [List.length_set]
  refine ⟨?_, ?_, a1, a2, by omega, by omega⟩
  · exact len_bif (fun _ => len_bif (fun _ => c1) (len_bif (fun _ => by omega) a1)) b1
  · exact len_bif (fun _ => len_bif (fun _ => c2) (len_bif (fun hv => by have := fill_len (bs := bs) (p := dAxP bs + 1 + 1) hv; omega) a2)) b2
/-- Cells. -/
def dCn (bs : List Int) : Int := IntKind.wrap .i64 (pickV bs (aArP bs 0) 6 - 1)
/-- Repeated. -/
def drN (bs : List Int) : Nat := bif djB1 bs then lenK (aArS bs 0) (dAx bs) else 0
def dr0 (bs : List Int) : List Int := tab (drN bs) fun i => oneV bs (dAxP bs + ((i : Nat) : Int)) [1, 0, 2, 1, 3]
def drT (bs : List Int) : List Int := spV bs (dAxP bs + ((drN bs : Nat) : Int)) (dr0 bs) 61
theorem drN_bd {bs : List Int} : drN bs ≤ 60 := by
  unfold drN djB1
  cases hb : axB (aArS bs 0) (aArD bs 0) (dAx bs) with
  | false => simp
  | true =>
    obtain ⟨j, hj0, hj, hv, ax, hd, hl⟩ := axB_inv hb
    have := ax.len_le
    simp only [cond_true, lenK, hj0, Int.toNat_natCast]
    exact this
theorem drT_len (bs : List Int) : (drT bs).length ≤ 61 := by
  have h1 := sp_len bs (dAxP bs + ((drN bs : Nat) : Int)) (dr0 bs) 61
  have h2 : (dr0 bs).length = drN bs := tab_length _ _
  have h3 := drN_bd (bs := bs)
  unfold drT
  omega
end Go.Ab
namespace Go.Ab
/-- Digits to any bases. -/
theorem tab_cons (n : Nat) (f : Nat → Int) : tab (n + 1) f = f 0 :: tab n fun i => f (i + 1) := by
  simp [tab, List.range_succ_eq_map, Function.comp_def]
theorem plN_cons (x : Int) (xs : List Int) (n : Nat) : plN (x :: xs) n = ((n / prodN xs % x.toNat : Nat) : Int) :: plN xs n := by
  show tab (xs.length + 1) _ = _
  rw [tab_cons]
  rfl
theorem plN_add (xs : List Int) : ∀ d m : Nat, plN xs (d * prodN xs + m) = plN xs m := by
  induction xs with
  | nil => intro d m; rfl
  | cons x xs ih =>
    intro d m
    have e : d * prodN (x :: xs) = (d * x.toNat) * prodN xs := by simp only [prodN]; rw [Nat.mul_assoc]
    rw [plN_cons, plN_cons, e, ih]
    congr 2
    by_cases hp : prodN xs = 0
    · rw [hp]; simp
    · rw [Nat.mul_comm (d * x.toNat), Nat.mul_add_div (by omega), Nat.mul_comm d, Nat.mul_add_mod]
theorem prodN_pos {xs : List Int} (h : allB xs 1 1000 = true) : 1 ≤ prodN xs := by
  induction xs with
  | nil => exact Nat.le_refl _
  | cons x xs ih =>
    have ha := allB_iff.1 h
    have h1 := ha x (by simp)
    have h2 : allB xs 1 1000 = true := allB_iff.2 fun v hv => ha v (by simp [hv])
    have := ih h2
    have : 1 * 1 ≤ x.toNat * prodN xs := Nat.mul_le_mul (by omega) this
    simp only [prodN]
    omega
theorem off_plN {xs : List Int} (h : allB xs 1 1000 = true) : ∀ (n a : Nat), a * prodN xs + prodN xs ≤ 1000000000000000000 → isPl xs (plN xs n) = true ∧ offW xs (plN xs n) (a : Int) = ((a * prodN xs + n % prodN xs : Nat) : Int) := by
  induction xs with
  | nil =>
    intro n a _
    refine ⟨rfl, ?_⟩
    show (a : Int) = ((a * 1 + n % 1 : Nat) : Int)
    rw [Nat.mod_one]; omega
  | cons x xs ih =>
    intro n a hb
    have ha := allB_iff.1 h
    have h1 := ha x (by simp)
    have h2 : allB xs 1 1000 = true := allB_iff.2 fun v hv => ha v (by simp [hv])
    have hP := prodN_pos h2
    obtain ⟨X, rfl⟩ : ∃ X : Nat, x = X := ⟨x.toNat, by omega⟩
    have hX : 1 ≤ X := by omega
    have hd : n / prodN xs % X < X := Nat.mod_lt _ (by omega)
    simp only [prodN, Int.toNat_natCast] at hb ⊢
    rw [plN_cons, Int.toNat_natCast]
    generalize hD : n / prodN xs % X = d at *
    have e1 : (a * X + d) * prodN xs + prodN xs ≤ a * (X * prodN xs) + X * prodN xs := by
      have : (d + 1) * prodN xs ≤ X * prodN xs := Nat.mul_le_mul_right _ (by omega)
      rw [Nat.add_mul d 1, Nat.one_mul] at this
      rw [Nat.add_mul, Nat.mul_assoc]
      omega
    have e2 : a * X + d ≤ 1000000000000000000 := by
      have : (a * X + d) * 1 ≤ (a * X + d) * prodN xs := Nat.mul_le_mul_left _ hP
      omega
    obtain ⟨i1, i2⟩ := ih h2 n (a * X + d) (by omega)
    constructor
    · simp only [isPl]
      rw [i1, wS (x := (X : Int) - 1) (by omega) (by omega), decide_eq_true (p := (0 : Int) ≤ (d : Int)) (by omega), decide_eq_true (p := (d : Int) ≤ (X : Int) - 1) (by omega)]
      rfl
    · simp only [offW]
      rw [wMul (by omega), wAdd (by omega), i2, Nat.mul_comm X, Nat.mod_mul, hD, Nat.add_mul, Nat.mul_assoc a X, Nat.mul_comm X, Nat.mul_comm d]
      congr 1
      omega
theorem pl_dec {xs : List Int} (h : allB xs 1 1000 = true) : ∀ {ds : List Int}, isPl xs ds = true → ∃ m : Nat, m < prodN xs ∧ plN xs m = ds ∧ ∀ a : Nat, a * prodN xs + prodN xs ≤ 1000000000000000000 → offW xs ds (a : Int) = ((a * prodN xs + m : Nat) : Int) := by
  induction xs with
  | nil =>
    intro ds hp
    match ds, hp with
    | [], _ =>
      refine ⟨0, by simp [prodN], rfl, fun a _ => ?_⟩
      show (a : Int) = ((a * 1 + 0 : Nat) : Int)
      omega
  | cons x xs ih =>
    intro ds hp
    have ha := allB_iff.1 h
    have h1 := ha x (by simp)
    have h2 : allB xs 1 1000 = true := allB_iff.2 fun v hv => ha v (by simp [hv])
    have hP := prodN_pos h2
    obtain ⟨X, rfl⟩ : ∃ X : Nat, x = X := ⟨x.toNat, by omega⟩
    match ds, hp with
    | d0 :: ds, hp =>
      simp only [isPl, Bool.and_eq_true, decide_eq_true_eq] at hp
      obtain ⟨⟨p1, p2⟩, p3⟩ := hp
      rw [wS (x := (X : Int) - 1) (by omega) (by omega)] at p2
      obtain ⟨d, rfl⟩ : ∃ d : Nat, d0 = d := ⟨d0.toNat, by omega⟩
      obtain ⟨m, q1, q2, q3⟩ := ih h2 p3
      have hd : (d + 1) * prodN xs ≤ X * prodN xs := Nat.mul_le_mul_right _ (by omega)
      rw [Nat.add_mul, Nat.one_mul] at hd
      refine ⟨d * prodN xs + m, by simp only [prodN, Int.toNat_natCast]; omega, ?_, fun a hb => ?_⟩
      · rw [plN_cons, plN_add, q2, Int.toNat_natCast, Nat.mul_comm d, Nat.mul_add_div (by omega), Nat.div_eq_of_lt q1, Nat.add_zero, Nat.mod_eq_of_lt (by omega)]
      · simp only [prodN, Int.toNat_natCast] at hb ⊢
        have e1 : (a * X + d) * prodN xs + prodN xs ≤ a * (X * prodN xs) + X * prodN xs := by
          rw [Nat.add_mul, Nat.mul_assoc]
          omega
        have e2 : a * X + d ≤ 1000000000000000000 := by
          have : (a * X + d) * 1 ≤ (a * X + d) * prodN xs := Nat.mul_le_mul_left _ hP
          omega
        simp only [offW]
        rw [wMul (by omega), wAdd (by omega), q3 (a * X + d) (by omega), Nat.add_mul, Nat.mul_assoc, Nat.add_assoc]
theorem enB_inv {xs : List Int} {n : Int} (h : enB xs n = true) : ∃ j : Nat, n = j ∧ bsB xs = true ∧ j < prodN xs ∧ isPl xs (plN xs j) = true ∧ offW xs (plN xs j) 0 = (j : Int) ∧ enD xs (j : Int) = plN xs j := by
  have h' := h
  simp only [enB, Bool.and_eq_true, decide_eq_true_eq] at h
  obtain ⟨⟨h1, h2⟩, h3⟩ := h
  obtain ⟨b1, b2, b3, b4, b5, b6, b7⟩ := bsB_inv h1
  rw [b4] at h3
  obtain ⟨j, rfl⟩ : ∃ j : Nat, n = j := ⟨n.toNat, by omega⟩
  obtain ⟨q1, q2⟩ := off_plN b3 j 0 (by omega)
  rw [Nat.mod_eq_of_lt (by omega), Nat.zero_mul, Nat.zero_add] at q2
  exact ⟨j, rfl, h1, by omega, q1, q2, by simp only [enD, h', cond_true, Int.toNat_natCast]⟩
theorem enB_of {xs : List Int} {j : Nat} (h : bsB xs = true) (hj : j < prodN xs) : enB xs (j : Int) = true := by
  obtain ⟨b1, b2, b3, b4, b5, b6, b7⟩ := bsB_inv h
  simp only [enB, h, b4, Bool.true_and, Bool.and_eq_true, decide_eq_true_eq]
  omega
/-- The last digit. -/
theorem plN_last {xs : List Int} {n k : Nat} (hk : xs.length = k + 1) : (plN xs n).getD k 0 = ((n % lenN xs k : Nat) : Int) := by
  rw [plN_get (by omega)]
  have : behN xs k = 1 := by
    unfold behN
    rw [List.drop_eq_nil_of_le (by omega)]
    rfl
  rw [this, Nat.div_one]
/-- Polynomials. -/
theorem lim_id {v : Int} (h1 : -1000000 ≤ v) (h2 : v ≤ 1000000) : limV v = v := by
  unfold limV minI maxI
  split <;> split <;> omega
theorem poF_snoc (x : Int) : ∀ (cs : List Int) (c n : Int), poF x (cs ++ [c]) n = limV (IntKind.wrap .i64 (limV (IntKind.wrap .i64 (poF x cs n * x)) + c))
  | [], _, _ => rfl
  | _ :: cs, c, n => by simp only [List.cons_append, poF]; exact poF_snoc x cs c _
theorem poF_bd (x : Int) : ∀ (cs : List Int) (n : Int), -1000000 ≤ n → n ≤ 1000000 → -1000000 ≤ poF x cs n ∧ poF x cs n ≤ 1000000
  | [], _, h1, h2 => ⟨h1, h2⟩
  | c :: cs, n, h1, h2 => by
    simp only [poF]
    have := lim_bd (IntKind.wrap .i64 (limV (IntKind.wrap .i64 (n * x)) + c))
    exact poF_bd x cs _ this.1 this.2
theorem poly_bits : ∀ (f n : Nat), n < f → n ≤ 1000000 → poF 2 (btL n) 0 = (n : Int) := by
  intro f
  induction f with
  | zero => intro n h; omega
  | succ f ih =>
    intro n h1 h2
    by_cases hn : 1 < n
    · rw [bt_step hn, poF_snoc, ih (n / 2) (by omega) (by omega), wS (x := ((n / 2 : Nat) : Int) * 2) (by omega) (by omega), lim_id (v := ((n / 2 : Nat) : Int) * 2) (by omega) (by omega), wS (x := ((n / 2 : Nat) : Int) * 2 + ((n % 2 : Nat) : Int)) (by omega) (by omega), lim_id (by omega) (by omega)]
      omega
    · rw [bt_small (by omega)]
      show limV (IntKind.wrap .i64 (limV (IntKind.wrap .i64 (0 * 2)) + (n : Int))) = (n : Int)
      rw [Int.zero_mul, wS (x := 0) (by omega) (by omega), lim_id (v := 0) (by omega) (by omega), Int.zero_add, wS (by omega) (by omega), lim_id (by omega) (by omega)]
theorem bit_head : ∀ (f n : Nat), n < f → 1 ≤ n → (btL n).getD 0 0 = 1 := by
  intro f
  induction f with
  | zero => intro n h; omega
  | succ f ih =>
    intro n h1 h2
    by_cases hn : 1 < n
    · have hl := btL_length (n / 2)
      have := ih (n / 2) (by omega) (by omega)
      rw [bt_step hn, List.getD_eq_getElem?_getD, List.getElem?_append_left (by omega), ← List.getD_eq_getElem?_getD]
      exact this
    · obtain rfl : n = 1 := by omega
      rfl
theorem bt_facts {n : Int} (h : btB n = true) : ∃ j : Nat, n = j ∧ j ≤ 1000000 ∧ btS (j : Int) = [(((btL j).length : Nat) : Int)] ∧ btD (j : Int) = btL j ∧ vecOk (btL j) = true ∧ (btL j).length ≤ 20 ∧ 0 < (btL j).length := by
  have h' := h
  simp only [btB, Bool.and_eq_true, decide_eq_true_eq] at h
  obtain ⟨j, rfl⟩ : ∃ j : Nat, n = j := ⟨n.toNat, by omega⟩
  have hl := log2_le (n := j) (by omega)
  have hb := btL_length j
  refine ⟨j, rfl, by omega, ?_, ?_, vec_part (by omega) fun x hx => ?_, by omega, by omega⟩
  · simp only [btS, h', cond_true, Int.toNat_natCast, hb]
  · simp only [btD, h', cond_true, Int.toNat_natCast]
  · rcases btL_mem hx with rfl | rfl <;> omega
end Go.Ab
namespace Go.Ab
/-- Joined vectors. -/
theorem jo_vec {xs ys : List Int} (hx : vecOk xs = true) (hy : vecOk ys = true) (hl : xs.length + ys.length ≤ 60) :
    joB [((xs.length : Nat) : Int)] xs [((ys.length : Nat) : Int)] ys 0 = true ∧ joS [((xs.length : Nat) : Int)] xs [((ys.length : Nat) : Int)] ys 0 = [(((xs ++ ys).length : Nat) : Int)] ∧ joD [((xs.length : Nat) : Int)] xs [((ys.length : Nat) : Int)] ys 0 = xs ++ ys := by
  have hs : joSh [((xs.length : Nat) : Int)] [((ys.length : Nat) : Int)] 0 = [(((xs ++ ys).length : Nat) : Int)] := by
    rw [List.length_append, Int.natCast_add]; rfl
  have hb : joB [((xs.length : Nat) : Int)] xs [((ys.length : Nat) : Int)] ys 0 = true := by
    have v1 := validA_vec hx
    have v2 := validA_vec hy
    have a1 : axB [((xs.length : Nat) : Int)] xs 0 = true := axB_of (k := 0) v1 (by simp)
    have a2 : axB [((ys.length : Nat) : Int)] ys 0 = true := axB_of (k := 0) v2 (by simp)
    have hv := (validS_one (m := (((xs ++ ys).length : Nat) : Int)) (by omega) (by rw [List.length_append]; omega)).1
    simp only [joB, a1, a2, Int.toNat_zero, hs, hv, Bool.true_and, Bool.and_true]
    simp
  refine ⟨hb, by simp only [joS, hb, cond_true, Int.toNat_zero, hs], ?_⟩
  simp only [joD, hb, cond_true, Int.toNat_zero, joN]
  have e1 : lenN [((xs.length : Nat) : Int)] 0 = xs.length := by simp [lenN]
  have e2 : lenN [((ys.length : Nat) : Int)] 0 = ys.length := by simp [lenN]
  have e3 : behN [((xs.length : Nat) : Int)] 0 = 1 := rfl
  have e4 : befN [((xs.length : Nat) : Int)] 0 = 1 := rfl
  rw [e1, e2, e3, e4]
  simp [joC]
end Go.Ab
namespace Go.Ab
theorem idxOf_val {xs : List Int} {v : Int} (h : xs.idxOf v < xs.length) : xs.getD (xs.idxOf v) 0 = v := by
  have := List.getElem_idxOf h
  simp [h]
theorem idxOf_fresh {xs : List Int} {v : Int} : (xs.take (xs.idxOf v)).contains v = false := by
  by_cases h : xs.idxOf v < xs.length
  · exact (idxOf_lt_iff h (idxOf_val h)).1 rfl
  · rw [Bool.eq_false_iff]
    intro hc
    have hm := List.mem_of_mem_take (contains_iff.1 hc)
    exact h (List.idxOf_lt_length_iff.2 hm)
/-- Joined data, place by place. -/
theorem getD_left {xs ys : List Int} {i : Nat} (h : i < xs.length) : (xs ++ ys).getD i 0 = xs.getD i 0 := by
  rw [List.getD_eq_getElem?_getD, List.getElem?_append_left h, ← List.getD_eq_getElem?_getD]
theorem getD_right {xs ys : List Int} {i n : Nat} (h : xs.length = n) : (xs ++ ys).getD (n + i) 0 = ys.getD i 0 := by
  rw [List.getD_eq_getElem?_getD, List.getElem?_append_right (by omega), ← List.getD_eq_getElem?_getD, h, Nat.add_sub_cancel_left]
theorem getD_cut {xs : List Int} {a n i : Nat} (h : i < n) : ((xs.drop a).take n).getD i 0 = xs.getD (a + i) 0 := by
  simp [List.getD_eq_getElem?_getD, List.getElem?_take, h]
theorem joC_get {x y : Nat} {da db : List Int} : ∀ n, n * x ≤ da.length → n * y ≤ db.length → ∀ b, b < n →
    (∀ r, r < x → (joC x y da db n).getD (b * (x + y) + r) 0 = da.getD (b * x + r) 0) ∧ (∀ r, r < y → (joC x y da db n).getD (b * (x + y) + (x + r)) 0 = db.getD (b * y + r) 0)
  | 0, _, _, b, hb => absurd hb (by omega)
  | n + 1, h1, h2, b, hb => by
    rw [Nat.add_mul, Nat.one_mul] at h1 h2
    have hl := joC_len (x := x) (y := y) (da := da) (db := db) n (by omega) (by omega)
    have q1 : ((da.drop (n * x)).take x).length = x := by simp only [List.length_take, List.length_drop]; omega
    have q3 : (joC x y da db n ++ (da.drop (n * x)).take x).length = n * (x + y) + x := by rw [List.length_append, hl, q1]
    simp only [joC]
    by_cases hbn : b = n
    · subst hbn
      refine ⟨fun r hr => ?_, fun r hr => ?_⟩
      · rw [getD_left (by omega), getD_right hl, getD_cut hr]
      · rw [← Nat.add_assoc, getD_right q3, getD_cut hr]
    · have ih := joC_get (x := x) (y := y) (da := da) (db := db) n (by omega) (by omega) b (by omega)
      have hb2 : (b + 1) * (x + y) ≤ n * (x + y) := Nat.mul_le_mul_right _ (by omega)
      rw [Nat.add_mul, Nat.one_mul] at hb2
      refine ⟨fun r hr => ?_, fun r hr => ?_⟩
      · rw [getD_left (by omega), getD_left (by omega)]
        exact ih.1 r hr
      · rw [getD_left (by omega), getD_left (by omega)]
        exact ih.2 r hr
theorem joC_mem {x y : Nat} {da db : List Int} {v : Int} : ∀ n, v ∈ joC x y da db n → v ∈ da ∨ v ∈ db
  | 0, h => by simp [joC] at h
  | n + 1, h => by
    simp only [joC, List.mem_append] at h
    rcases h with (h | h) | h
    · exact joC_mem n h
    · exact .inl (List.mem_of_mem_drop (List.mem_of_mem_take h))
    · exact .inr (List.mem_of_mem_drop (List.mem_of_mem_take h))
structure JoF (sa da sb db : List Int) (j : Nat) : Prop where
  len : (joSh sa sb j).length = sa.length
  bef : befN (joSh sa sb j) j = befN sa j
  beh : behN (joSh sa sb j) j = behN sa j
  ln : lenN (joSh sa sb j) j = lenN sa j + lenN sb j
  data : (joN sa da sb db j).length = befN sa j * (lenN sa j + lenN sb j) * behN sa j
  val : validA (joSh sa sb j) (joN sa da sb db j) = true
  seta : (joSh sa sb j).set j ((lenN sa j : Nat) : Int) = sa
  setb : (joSh sa sb j).set j ((lenN sb j : Nat) : Int) = sb
  geta : ∀ b i m, b < befN sa j → i < lenN sa j → m < behN sa j → (joN sa da sb db j).getD ((b * (lenN sa j + lenN sb j) + i) * behN sa j + m) 0 = da.getD ((b * lenN sa j + i) * behN sa j + m) 0
  getb : ∀ b i m, b < befN sa j → i < lenN sb j → m < behN sa j → (joN sa da sb db j).getD ((b * (lenN sa j + lenN sb j) + (lenN sa j + i)) * behN sa j + m) 0 = db.getD ((b * lenN sb j + i) * behN sa j + m) 0
theorem jo_f {sa da sb db : List Int} {j : Nat} (o : JoOk sa da sb db j) : JoF sa da sb db j := by
  have hda := o.da
  have hdb := o.db
  have hlen := joC_len (x := lenN sa j * behN sa j) (y := lenN sb j * behN sa j) (da := da) (db := db) (befN sa j) (by omega) (by omega)
  have hget := joC_get (x := lenN sa j * behN sa j) (y := lenN sb j * behN sa j) (da := da) (db := db) (befN sa j) (by omega) (by omega)
  have hdat : (joN sa da sb db j).length = befN sa j * (lenN sa j + lenN sb j) * behN sa j := by
    unfold joN
    rw [hlen, Nat.mul_assoc, Nat.add_mul]
  refine ⟨by rw [o.sh, List.length_set], by rw [o.sh, bef_set], by rw [o.sh, beh_set], by rw [o.sh, len_set o.la, Int.toNat_natCast], hdat, ?_, ?_, ?_, ?_, ?_⟩
  · have h1 := (validA_inv o.va).2.2
    have h2 := (validA_inv o.vb).2.2
    simp only [validA, o.vs, Bool.true_and, Bool.and_eq_true]
    refine ⟨?_, allB_iff.2 fun v hv => ?_⟩
    · rw [o.vol, hdat, Nat.mul_assoc, Nat.add_mul]
      simp
    · rcases joC_mem _ hv with hv | hv
      · exact allB_iff.1 h1 v hv
      · exact allB_iff.1 h2 v hv
  · rw [o.sh, List.set_set, set_len o.xa]
  · have := o.eqs
    rw [o.xb.len] at this
    rw [o.sh, List.set_set, this]
  · intro b i m hb hi hm
    have hr : i * behN sa j + m < lenN sa j * behN sa j := by
      have : (i + 1) * behN sa j ≤ lenN sa j * behN sa j := Nat.mul_le_mul_right _ hi
      rw [Nat.add_mul, Nat.one_mul] at this
      omega
    have := (hget b hb).1 _ hr
    unfold joN
    rw [show (b * (lenN sa j + lenN sb j) + i) * behN sa j + m = b * (lenN sa j * behN sa j + lenN sb j * behN sa j) + (i * behN sa j + m) by rw [Nat.add_mul, Nat.mul_assoc, Nat.add_mul (lenN sa j)]; omega, this, show (b * lenN sa j + i) * behN sa j + m = b * (lenN sa j * behN sa j) + (i * behN sa j + m) by rw [Nat.add_mul, Nat.mul_assoc]; omega]
  · intro b i m hb hi hm
    have hr : i * behN sa j + m < lenN sb j * behN sa j := by
      have : (i + 1) * behN sa j ≤ lenN sb j * behN sa j := Nat.mul_le_mul_right _ hi
      rw [Nat.add_mul, Nat.one_mul] at this
      omega
    have := (hget b hb).2 _ hr
    unfold joN
    rw [show (b * (lenN sa j + lenN sb j) + (lenN sa j + i)) * behN sa j + m = b * (lenN sa j * behN sa j + lenN sb j * behN sa j) + (lenN sa j * behN sa j + (i * behN sa j + m)) by rw [Nat.add_mul, Nat.mul_assoc, Nat.add_mul (lenN sa j) (lenN sb j), Nat.add_mul (lenN sa j) i]; omega, this, show (b * lenN sb j + i) * behN sa j + m = b * (lenN sb j * behN sa j) + (i * behN sa j + m) by rw [Nat.add_mul, Nat.mul_assoc]; omega]
/-- The parts of what is joined. -/
theorem jo_part1 {sa da sb db ls : List Int} {j : Nat} (o : JoOk sa da sb db j) (hl : ls.length = lenN sa j) (hi : ∀ i, i < lenN sa j → ls.getD i 0 = (i : Int)) : alS (joSh sa sb j) j ls = sa ∧ alA (joSh sa sb j) (joN sa da sb db j) j ls = da := by
  have f := jo_f o
  refine ⟨by simp only [alS, Int.toNat_natCast, hl, f.seta], ?_⟩
  refine ext3 (B := befN sa j) (L := lenN sa j) (M := behN sa j) ?_ ?_ fun b i m hb hi' hm => ?_
  · rw [alA_length, f.bef, f.beh, hl]
  · rw [o.da, Nat.mul_assoc]
  · have := alA_get (sh := joSh sa sb j) (da := joN sa da sb db j) (k := j) (ls := ls) (b := b) (i := i) (m := m) (by rw [f.bef]; exact hb) (by omega) (by rw [f.beh]; exact hm)
    rw [hl, f.beh, f.ln, hi i hi'] at this
    rw [this]
    simp only [atV, decide_eq_true (p := (0 : Int) ≤ (i : Int)) (by omega), cond_true, Int.toNat_natCast]
    exact f.geta b i m hb hi' hm
theorem jo_part2 {sa da sb db ls : List Int} {j : Nat} (o : JoOk sa da sb db j) (hl : ls.length = lenN sb j) (hi : ∀ i, i < lenN sb j → ls.getD i 0 = ((lenN sa j + i : Nat) : Int)) : alS (joSh sa sb j) j ls = sb ∧ alA (joSh sa sb j) (joN sa da sb db j) j ls = db := by
  have f := jo_f o
  refine ⟨by simp only [alS, Int.toNat_natCast, hl, f.setb], ?_⟩
  refine ext3 (B := befN sa j) (L := lenN sb j) (M := behN sa j) ?_ ?_ fun b i m hb hi' hm => ?_
  · rw [alA_length, f.bef, f.beh, hl]
  · rw [o.db, Nat.mul_assoc]
  · have := alA_get (sh := joSh sa sb j) (da := joN sa da sb db j) (k := j) (ls := ls) (b := b) (i := i) (m := m) (by rw [f.bef]; exact hb) (by omega) (by rw [f.beh]; exact hm)
    rw [hl, f.beh, f.ln, hi i hi'] at this
    rw [this]
    simp only [atV, decide_eq_true (p := (0 : Int) ≤ ((lenN sa j + i : Nat) : Int)) (by omega), cond_true, Int.toNat_natCast]
    exact f.getb b i m hb hi' hm
/-- What is joined, known by its parts. -/
theorem jo_ext {sa da sb db xs : List Int} {j : Nat} (o : JoOk sa da sb db j) (hx : xs.length = befN sa j * (lenN sa j + lenN sb j) * behN sa j)
    (h1 : ∀ b i m, b < befN sa j → i < lenN sa j → m < behN sa j → xs.getD ((b * (lenN sa j + lenN sb j) + i) * behN sa j + m) 0 = da.getD ((b * lenN sa j + i) * behN sa j + m) 0)
    (h2 : ∀ b i m, b < befN sa j → i < lenN sb j → m < behN sa j → xs.getD ((b * (lenN sa j + lenN sb j) + (lenN sa j + i)) * behN sa j + m) 0 = db.getD ((b * lenN sb j + i) * behN sa j + m) 0) : xs = joN sa da sb db j := by
  have f := jo_f o
  refine ext3 (B := befN sa j) (L := lenN sa j + lenN sb j) (M := behN sa j) hx f.data fun b i m hb hi hm => ?_
  by_cases c : i < lenN sa j
  · rw [h1 b i m hb c hm, f.geta b i m hb c hm]
  · obtain ⟨q, rfl⟩ : ∃ q, i = lenN sa j + q := ⟨i - lenN sa j, by omega⟩
    rw [h2 b q m hb (by omega) hm, f.getb b q m hb (by omega) hm]
theorem joB_of {sa da sb db : List Int} {j : Nat} (h1 : axB sa da (j : Int) = true) (h2 : axB sb db (j : Int) = true) (h3 : sa.set j (sb.getD j 0) = sb) (h4 : validS (joSh sa sb j) = true) : joB sa da sb db (j : Int) = true := by
  simp only [joB, h1, h2, Int.toNat_natCast, decide_eq_true h3, h4, Bool.and_self]
end Go.Ab
namespace Go.Ab
theorem JoOk.sets {sa da sb db : List Int} {j : Nat} (o : JoOk sa da sb db j) (v : Int) : sb.set j v = sa.set j v := by
  have := congrArg (fun l => l.set j v) o.eqs
  simp only [List.set_set] at this
  exact this.symm
end Go.Ab
namespace Go.Ab
structure StF (sa da sb db : List Int) : Prop where
  eq : sa = sb
  va : validA sa da = true
  vb : validA sb db = true
  val : validA (2 :: sa) (da ++ db) = true
  s : stS sa da sb db = 2 :: sa
  d : stD sa da sb db = da ++ db
  la : da.length = prodN sa
  lb : db.length = prodN sa
theorem st_f {sa da sb db : List Int} (h : stB sa da sb db = true) : StF sa da sb db := by
  obtain ⟨q1, q2, q3⟩ := st_jo sa da sb db
  have hj : joB (1 :: sa) da (1 :: sb) db 0 = true := by rw [q1]; exact h
  obtain ⟨j, hj0, o⟩ := joB_inv hj
  obtain rfl : j = 0 := by omega
  have f := jo_f o
  have e1 : joS (1 :: sa) da (1 :: sb) db 0 = joSh (1 :: sa) (1 :: sb) 0 := by simp only [joS, hj, cond_true, Int.toNat_zero]
  have e2 : joD (1 :: sa) da (1 :: sb) db 0 = joN (1 :: sa) da (1 :: sb) db 0 := by simp only [joD, hj, cond_true, Int.toNat_zero]
  have hs : stS sa da sb db = 2 :: sa := by simp only [stS, h, cond_true]
  have hd : stD sa da sb db = da ++ db := by simp only [stD, h, cond_true]
  have hval := f.val
  rw [← e1, ← e2, q2, q3, hs, hd] at hval
  simp only [stB, Bool.and_eq_true, decide_eq_true_eq] at h
  obtain ⟨⟨⟨h1, h2⟩, h3⟩, h4⟩ := h
  exact ⟨h3, h1, h2, hval, hs, hd, data_prod h1, by rw [h3]; exact data_prod h2⟩
theorem ce_of {s : Int} {sh da : List Int} {n : Nat} (hv : validA (s :: sh) da = true) (hn : (n : Int) < s) : ceB (s :: sh) da (n : Int) = true ∧ ceS (s :: sh) da (n : Int) = sh ∧ ceD (s :: sh) da (n : Int) = (da.drop (n * prodN sh)).take (prodN sh) := by
  have hx : axB (s :: sh) da 0 = true := axB_of (k := 0) hv (by simp)
  have hL : lenN (s :: sh) 0 = s.toNat := rfl
  have hb : ceB (s :: sh) da (n : Int) = true := by
    simp only [ceB, hx, hL, Bool.true_and, Bool.and_eq_true, decide_eq_true_eq]
    omega
  refine ⟨hb, by simp only [ceS, hb, cond_true, List.drop_one, List.tail_cons], ?_⟩
  simp only [ceD, hb, cond_true, Int.toNat_natCast]
  rfl
end Go.Ab
namespace Go.Ab
theorem tab_add (a b : Nat) (f : Nat → Int) : tab (a + b) f = tab a f ++ tab b fun i => f (a + i) := by
  simp [tab, List.range_add, Function.comp_def]
/-- Cells. -/
theorem ce_valid {sh da : List Int} {n : Int} (h : ceB sh da n = true) : ∃ j : Nat, n = j ∧ j < lenN sh 0 ∧ 0 < sh.length ∧ validA sh da = true ∧ Ax sh 0 ∧ da.length = lenN sh 0 * behN sh 0 ∧ (j + 1) * behN sh 0 ≤ da.length ∧ ceS sh da (j : Int) = sh.drop 1 ∧ ceD sh da (j : Int) = ceN sh da j ∧ (ceN sh da j).length = behN sh 0 ∧ validA (sh.drop 1) (ceN sh da j) = true := by
  obtain ⟨j, rfl, hj, hx, hle⟩ := ceB_inv h
  obtain ⟨h0, hv, ax, hd, hl⟩ := axB_zero hx
  have hvS := validS_inv (validA_inv hv).1
  have hM : behN sh 0 ≤ da.length := by
    rw [Nat.add_mul, Nat.one_mul] at hle
    omega
  have hlen := validA_len hv
  have hcl : (ceN sh da j).length = behN sh 0 := by
    rw [Nat.add_mul, Nat.one_mul] at hle
    simp only [ceN, List.length_take, List.length_drop]
    omega
  have hbe := ax.beh
  refine ⟨j, rfl, hj, h0, hv, ax, hd, hle, by simp only [ceS, h, cond_true], by simp only [ceD, h, cond_true, Int.toNat_natCast], hcl, ?_⟩
  simp only [validA, validS, Bool.and_eq_true, decide_eq_true_eq, beq_iff_eq]
  refine ⟨⟨⟨⟨by rw [List.length_drop]; omega, allB_drop 1 hvS.2.1⟩, ?_⟩, ?_⟩, allB_iff.2 fun v hv2 => ?_⟩
  · have : volW (sh.drop 1) = ((behN sh 0 : Nat) : Int) := hbe
    omega
  · have : volW (sh.drop 1) = ((behN sh 0 : Nat) : Int) := hbe
    rw [hcl, this]
  · exact allB_iff.1 (validA_inv hv).2.2 v (List.mem_of_mem_drop (List.mem_of_mem_take hv2))
theorem al_cell {sh da ls : List Int} {n : Nat} (hx : 0 < sh.length) (hl : ls.length = 1) (hg : ls.getD 0 0 = (n : Int)) (hle : (n + 1) * behN sh 0 ≤ da.length) : alA sh da 0 ls = ceN sh da n := by
  have hB : befN sh 0 = 1 := rfl
  have hlen : (alA sh da ((0 : Nat) : Int) ls).length = behN sh 0 := by rw [alA_length, hl, hB, Nat.one_mul]
  rw [Nat.add_mul, Nat.one_mul] at hle
  have hcl : (ceN sh da n).length = behN sh 0 := by
    simp only [ceN, List.length_take, List.length_drop]
    omega
  refine ext2 (B := 1) (M := behN sh 0) (by rw [Nat.one_mul]; exact hlen) (by rw [Nat.one_mul]; exact hcl) fun b m hb hm => ?_
  obtain rfl : b = 0 := by omega
  have := alA_get (sh := sh) (da := da) (k := 0) (ls := ls) (b := 0) (i := 0) (m := m) (by rw [hB]; omega) (by omega) hm
  rw [hl, hg] at this
  simp only [atV, decide_eq_true (p := (0 : Int) ≤ (n : Int)) (by omega), cond_true, Int.toNat_natCast, Nat.zero_mul, Nat.zero_add] at this
  rw [Nat.zero_mul, Nat.zero_add]
  unfold ceN
  rw [getD_cut hm]
  exact this
/-- Reductions of pairs. -/
theorem redF_two (op a b : Int) : redF op [a, b] = operF op a b := by
  rw [redF_cons (by simp)]
  rfl
theorem st_lane {s d1 d2 : List Int} (op : Int) (h1 : d1.length = prodN s) (h2 : d2.length = prodN s) : rdxN op (2 :: s) (d1 ++ d2) 0 = tab d1.length fun i => operF op (d1.getD i 0) (d2.getD i 0) := by
  have e1 : befN (2 :: s) (0 : Int).toNat = 1 := rfl
  have e2 : behN (2 :: s) (0 : Int).toNat = prodN s := rfl
  unfold rdxN
  rw [e1, e2, Nat.one_mul, ← h1]
  refine tab_congr fun i hi => ?_
  have e3 : lnK (2 :: s) (d1 ++ d2) 0 (i / d1.length) (i % d1.length) = [d1.getD i 0, d2.getD i 0] := by
    rw [Nat.div_eq_of_lt hi, Nat.mod_eq_of_lt hi]
    unfold lnK lnD
    rw [e2, show lenN (2 :: s) (0 : Int).toNat = 2 from rfl]
    show [(d1 ++ d2).getD ((0 * 2 + 0) * prodN s + i) 0, (d1 ++ d2).getD ((0 * 2 + 1) * prodN s + i) 0] = _
    rw [show (0 * 2 + 0) * prodN s + i = i by omega, show (0 * 2 + 1) * prodN s + i = prodN s + i by omega, getD_left hi, getD_right h1]
  rw [e3, redF_two]
/-- The least number of two lists. -/
theorem red_min_app : ∀ {xs ys : List Int}, (∀ x ∈ xs, numB x = true) → (∀ y ∈ ys, numB y = true) → redF 4 (xs ++ ys) = minI (redF 4 xs) (redF 4 ys)
  | [], ys, _, hy => by
    have hb := numB_inv (red_num (op := 4) rfl hy)
    have e : redF 4 [] = 1000000 := rfl
    rw [List.nil_append, e]
    unfold minI
    split <;> omega
  | x :: xs, ys, hx, hy => by
    have ih := red_min_app (xs := xs) (ys := ys) (fun v hv => hx v (by simp [hv])) hy
    have e4 : ∀ a b, operF 4 a b = minI a b := fun a b => rfl
    by_cases h1 : xs = []
    · subst h1
      by_cases h2 : ys = []
      · subst h2
        have hb := numB_inv (hx x (by simp))
        show x = minI x 1000000
        unfold minI
        split <;> omega
      · show redF 4 (x :: ys) = _
        rw [redF_cons h2]
        rfl
    · rw [List.cons_append, redF_cons (by simp [h1]), redF_cons h1, ih, e4, e4]
      generalize redF 4 xs = p
      generalize redF 4 ys = q
      unfold minI
      repeat' split
      all_goals omega
theorem jo_lane {sa da sb db : List Int} {j i m : Nat} (o : JoOk sa da sb db j) (hi : i < befN sa j) (hm : m < behN sa j) : lnK (joSh sa sb j) (joN sa da sb db j) (j : Int) i m = lnK sa da (j : Int) i m ++ lnK sb db (j : Int) i m := by
  have f := jo_f o
  unfold lnK lnD
  rw [Int.toNat_natCast, f.ln, f.beh, o.beh, tab_add]
  congr 1
  · exact tab_congr fun q hq => f.geta i q m hi hq hm
  · exact tab_congr fun q hq => f.getb i q m hi hq hm
/-- Repeated once. -/
theorem rp_ones {L : Nat} : ∀ n, n ≤ L → rpC (List.replicate L 1) n = tab n fun i => (i : Int)
  | 0, _ => rfl
  | n + 1, h => by
    have e : (List.replicate L (1 : Int)).getD n 0 = 1 := by simp [show n < L by omega]
    rw [tab_succ, ← rp_ones (L := L) n (by omega)]
    simp only [rpC, e]
    rfl
theorem rpC_succ_len (ts : List Int) (n : Nat) : (rpC ts (n + 1)).length = (rpC ts n).length + (ts.getD n 0).toNat := by
  simp only [rpC, List.length_append, List.length_replicate]
end Go.Ab
namespace Go.Ab
/-- Unique numbers. -/
theorem uq_fresh (da : List Int) : ∀ n i, i < (uqC da n).length → ((uqC da n).take i).contains ((uqC da n).getD i 0) = false
  | 0, i, h => by simp [uqC] at h
  | n + 1, i, h => by
    have ih := uq_fresh da n i
    simp only [uqC] at h ⊢
    cases hc : (uqC da n).contains (da.getD n 0) with
    | true =>
      rw [hc] at h
      simp only [cond_true] at h ⊢
      exact ih h
    | false =>
      rw [hc] at h
      simp only [cond_false] at h ⊢
      rw [List.length_append, List.length_singleton] at h
      by_cases hi : i < (uqC da n).length
      · rw [getD_left hi, List.take_append_of_le_length (by omega)]
        exact ih hi
      · obtain rfl : i = (uqC da n).length := by omega
        have : (uqC da n ++ [da.getD n 0]).getD (uqC da n).length 0 = da.getD n 0 := by
          exact getD_right (xs := uqC da n) (ys := [da.getD n 0]) (i := 0) (n := (uqC da n).length) rfl
        rw [this, List.take_left' rfl]
        exact hc
theorem uq_self {u : List Int} (h : ∀ i, i < u.length → (u.take i).contains (u.getD i 0) = false) : ∀ n, n ≤ u.length → uqC u n = u.take n
  | 0, _ => by simp [uqC]
  | n + 1, hn => by
    have ih := uq_self h n (by omega)
    simp only [uqC]
    rw [ih, h n (by omega), cond_false]
    exact take_push (by omega) rfl
theorem uq_order (da : List Int) : ∀ n, n ≤ da.length → (∀ i, i < (uqC da n).length → da.idxOf ((uqC da n).getD i 0) < n) ∧ (∀ i j, i < j → j < (uqC da n).length → da.idxOf ((uqC da n).getD i 0) < da.idxOf ((uqC da n).getD j 0))
  | 0, _ => ⟨fun i h => by simp [uqC] at h, fun i j _ h => by simp [uqC] at h⟩
  | n + 1, hn => by
    obtain ⟨i1, i2⟩ := uq_order da n (by omega)
    have hm := uqC_mem da n (by omega) (da.getD n 0)
    simp only [uqC]
    cases hc : (uqC da n).contains (da.getD n 0) with
    | true =>
      simp only [cond_true]
      exact ⟨fun i h => by have := i1 i h; omega, i2⟩
    | false =>
      simp only [cond_false]
      have hi : da.idxOf (da.getD n 0) = n := by
        refine (idxOf_lt_iff (by omega) rfl).2 ?_
        rw [Bool.eq_false_iff]
        intro h2
        rw [contains_iff, ← hm, ← contains_iff, hc] at h2
        cases h2
      have hlast : (uqC da n ++ [da.getD n 0]).getD (uqC da n).length 0 = da.getD n 0 := by
        exact getD_right (xs := uqC da n) (ys := [da.getD n 0]) (i := 0) (n := (uqC da n).length) rfl
      refine ⟨fun i h => ?_, fun i j hij h => ?_⟩
      · rw [List.length_append, List.length_singleton] at h
        by_cases hi2 : i < (uqC da n).length
        · rw [getD_left hi2]
          have := i1 i hi2
          omega
        · obtain rfl : i = (uqC da n).length := by omega
          rw [hlast, hi]
          omega
      · rw [List.length_append, List.length_singleton] at h
        rw [getD_left (xs := uqC da n) (i := i) (by omega)]
        by_cases hj2 : j < (uqC da n).length
        · rw [getD_left hj2]
          exact i2 i j hij hj2
        · obtain rfl : j = (uqC da n).length := by omega
          rw [hlast, hi]
          exact i1 i hij
theorem uq_facts {sh da : List Int} (h : vcB sh da = true) : uqS sh da = [(((uqC da da.length).length : Nat) : Int)] ∧ uqD sh da = uqC da da.length ∧ vecOk (uqC da da.length) = true ∧ (uqC da da.length).length ≤ 60 := by
  obtain ⟨_, _, hl, hall⟩ := vcB_inv h
  have hw := uqC_len da da.length
  refine ⟨by simp only [uqS, h, cond_true], by simp only [uqD, h, cond_true], vec_of_sub hl hall hw fun x hx => ?_, by omega⟩
  have := (uqC_mem da da.length (Nat.le_refl _) x).1 hx
  rwa [List.take_length] at this
/-- Places of numbers. -/
theorem wh_get (da : List Int) (j : Nat) (h : (da.getD j 0 == 0) = false) : ∀ n, j < n → (whC da j).length < (whC da n).length ∧ (whC da n).getD (whC da j).length 0 = (j : Int)
  | 0, hj => absurd hj (by omega)
  | n + 1, hj => by
    by_cases e : j = n
    · subst e
      simp only [whC, h, cond_false, List.length_append, List.length_singleton]
      refine ⟨by omega, ?_⟩
      exact getD_right (xs := whC da j) (ys := [(j : Int)]) (i := 0) (n := (whC da j).length) rfl
    · obtain ⟨i1, i2⟩ := wh_get da j h n (by omega)
      simp only [whC]
      cases (da.getD n 0 == 0) with
      | true => exact ⟨i1, i2⟩
      | false =>
        simp only [cond_false, List.length_append, List.length_singleton]
        exact ⟨by omega, by rw [getD_left i1, i2]⟩
theorem wh_facts {sh da : List Int} (h : vcB sh da = true) : whS sh da = [(((whC da da.length).length : Nat) : Int)] ∧ whD sh da = whC da da.length ∧ vecOk (whC da da.length) = true ∧ (whC da da.length).length ≤ 60 := by
  obtain ⟨_, _, hl, hall⟩ := vcB_inv h
  have hw := whC_len da da.length
  refine ⟨by simp only [whS, h, cond_true], by simp only [whD, h, cond_true], vec_part (by omega) fun x hx => ?_, by omega⟩
  have := whC_mem da da.length x hx
  omega
theorem wh_pick {sh da : List Int} (h : vcB sh da = true) : pkB sh da [(((whC da da.length).length : Nat) : Int)] (whC da da.length) = true ∧ pkD sh da [(((whC da da.length).length : Nat) : Int)] (whC da da.length) = pkN da (whC da da.length) := by
  obtain ⟨_, _, hv, _⟩ := wh_facts h
  have hin : allB (whC da da.length) 0 (((da.length : Nat) : Int) - 1) = true := allB_iff.2 fun x hx => by
    have := whC_mem da da.length x hx
    omega
  have hb : pkB sh da [(((whC da da.length).length : Nat) : Int)] (whC da da.length) = true := by simp only [pkB, h, validA_vec hv, hin, Bool.and_self]
  exact ⟨hb, by simp only [pkD, hb, cond_true]⟩
/-- Masks. -/
theorem mask_get (x : Int) : (mapF 4 (mapF 4 x) == 0) = (x == 0) ∧ (mapF 4 (mapF 4 x)).toNat = (bif x == 0 then 0 else 1) ∧ (mapF 4 (mapF 4 x) = 0 ∨ mapF 4 (mapF 4 x) = 1) := by
  rw [mapF4, mapF4]
  cases h : (x == 0) <;> exact ⟨rfl, rfl, by decide⟩
theorem wh_same {da mk : List Int} : ∀ n, (∀ i, i < n → (mk.getD i 0 == 0) = (da.getD i 0 == 0)) → whC mk n = whC da n
  | 0, _ => rfl
  | n + 1, h => by
    simp only [whC]
    rw [wh_same n fun i hi => h i (by omega), h n (by omega)]
theorem rp_wh {da mk : List Int} : ∀ n, (∀ i, i < n → (mk.getD i 0).toNat = (bif da.getD i 0 == 0 then 0 else 1)) → (rpC mk n).length = (whC da n).length
  | 0, _ => rfl
  | n + 1, h => by
    rw [rpC_succ_len, rp_wh n fun i hi => h i (by omega), h n (by omega)]
    simp only [whC]
    cases (da.getD n 0 == 0) with
    | true => rfl
    | false => simp only [cond_false, List.length_append, List.length_singleton]
/-- Numbers one after the other, each put if it is new. -/
def addU (u : List Int) (v : Int) : List Int := bif u.contains v then u else u ++ [v]
theorem uq_fold (da : List Int) : ∀ n, n ≤ da.length → uqC da n = (da.take n).foldl addU []
  | 0, _ => by simp [uqC]
  | n + 1, h => by
    have e : da.take (n + 1) = da.take n ++ [da.getD n 0] := (take_push (by omega) rfl).symm
    rw [e, List.foldl_append, ← uq_fold da n (by omega)]
    rfl
theorem uq_all (da : List Int) : uqC da da.length = da.foldl addU [] := by
  rw [uq_fold da da.length (Nat.le_refl _), List.take_length]
theorem addU_twice (u : List Int) (v : Int) : addU (addU u v) v = addU u v := by
  have h : (addU u v).contains v = true := by
    unfold addU
    cases h : u.contains v with
    | true => exact h
    | false => rw [contains_iff]; simp
  show (bif (addU u v).contains v then addU u v else addU u v ++ [v]) = addU u v
  rw [h]; rfl
theorem addU_rep (v : Int) : ∀ n u, (List.replicate (n + 1) v).foldl addU u = addU u v
  | 0, u => rfl
  | n + 1, u => by
    rw [List.replicate_succ, List.foldl_cons, addU_rep v n, addU_twice]
/-- Repeated numbers of a vector. -/
def rpV (da ts : List Int) : Nat → List Int
  | 0 => []
  | n + 1 => rpV da ts n ++ List.replicate (ts.getD n 0).toNat (da.getD n 0)
theorem rpV_len (da ts : List Int) : ∀ n, (rpV da ts n).length = (rpC ts n).length
  | 0 => rfl
  | n + 1 => by
    rw [rpC_succ_len, ← rpV_len da ts n]
    simp only [rpV, List.length_append, List.length_replicate]
theorem rpV_get (da ts : List Int) : ∀ n i, i < (rpC ts n).length → (rpV da ts n).getD i 0 = da.getD ((rpC ts n).getD i 0).toNat 0
  | 0, i, h => by simp [rpC] at h
  | n + 1, i, h => by
    rw [rpC_succ_len] at h
    have hl := rpV_len da ts n
    simp only [rpV, rpC]
    by_cases hi : i < (rpC ts n).length
    · rw [getD_left (by omega), getD_left hi]
      exact rpV_get da ts n i hi
    · obtain ⟨q, rfl⟩ : ∃ q, i = (rpC ts n).length + q := ⟨i - (rpC ts n).length, by omega⟩
      rw [getD_right hl, getD_right rfl]
      have hq : q < (ts.getD n 0).toNat := by omega
      have hr : ∀ (k : Nat) (v : Int), q < k → (List.replicate k v).getD q 0 = v := fun k v hk => by
        rw [List.getD_eq_getElem?_getD, List.getElem?_replicate, if_pos hk]; rfl
      rw [hr _ _ hq, hr _ _ hq, Int.toNat_natCast]
theorem rpV_uq {da ts : List Int} : ∀ n, n ≤ da.length → (∀ i, i < n → 1 ≤ ts.getD i 0) → (rpV da ts n).foldl addU [] = uqC da n
  | 0, _, _ => rfl
  | n + 1, hn, h => by
    have h1 := h n (by omega)
    obtain ⟨m, hm⟩ : ∃ m, (ts.getD n 0).toNat = m + 1 := ⟨(ts.getD n 0).toNat - 1, by omega⟩
    simp only [rpV]
    rw [List.foldl_append, rpV_uq n (by omega) fun i hi => h i (by omega), hm, addU_rep]
    rfl
theorem al_vec {n : Int} {da ls : List Int} (h : ∀ i, i < ls.length → 0 ≤ ls.getD i 0) : alA [n] da 0 ls = tab ls.length fun i => da.getD (ls.getD i 0).toNat 0 := by
  have hl : (alA [n] da ((0 : Nat) : Int) ls).length = ls.length := by
    rw [alA_length]
    show 1 * ls.length * 1 = _
    omega
  refine tab_ext hl fun i hi => ?_
  have := alA_get (sh := [n]) (da := da) (k := 0) (ls := ls) (b := 0) (i := i) (m := 0) (by show 0 < 1; omega) hi (by show 0 < 1; omega)
  have e1 : behN [n] 0 = 1 := rfl
  rw [e1] at this
  simp only [Nat.zero_mul, Nat.zero_add, Nat.mul_one, Nat.add_zero, atV, decide_eq_true (h i hi), cond_true] at this
  exact this
end Go.Ab
namespace Go.Ab
/-- Sorting by neighbours: a number moves to the left as long as it is less. -/
def bubA (lt : Int → Int → Bool) (a : Nat) : Nat → List Int → List Int
  | 0, xs => xs
  | k + 1, xs => bif lt (xs.getD (a + k + 1) 0) (xs.getD (a + k) 0) then bubA lt a k ((xs.set (a + k + 1) (xs.getD (a + k) 0)).set (a + k) (xs.getD (a + k + 1) 0)) else xs
def isN (lt : Int → Int → Bool) (a : Nat) : Nat → List Int → List Int
  | 0, xs => xs
  | n + 1, xs => bubA lt a n (isN lt a n xs)
def ltG (G : List Q → Int) (x y : Int) : Bool := decide (G [.i x, .i y] < 0)
def isW (G : List Q → Int) (a n : Nat) (xs : List Int) : List Int := isN (ltG G) a n xs
def domA (dom : List Q → Bool) (xs : List Int) : Bool := xs.all fun x => xs.all fun y => dom [.i x, .i y]
theorem domA_get {dom : List Q → Bool} {xs : List Int} (h : domA dom xs = true) {x y : Int} (hx : x ∈ xs) (hy : y ∈ xs) : dom [.i x, .i y] = true := by
  simp only [domA, List.all_eq_true] at h
  exact h x hx y hy
theorem domA_sub {dom : List Q → Bool} {xs ys : List Int} (h : domA dom xs = true) (hs : ∀ y ∈ ys, y ∈ xs) : domA dom ys = true := by
  simp only [domA, List.all_eq_true]
  exact fun x hx y hy => domA_get h (hs x hx) (hs y hy)
theorem bubA_len (lt : Int → Int → Bool) (a : Nat) : ∀ k xs, (bubA lt a k xs).length = xs.length
  | 0, _ => rfl
  | k + 1, xs => by
    simp only [bubA]
    cases lt (xs.getD (a + k + 1) 0) (xs.getD (a + k) 0) with
    | true => simp only [cond_true]; rw [bubA_len]; simp
    | false => rfl
theorem bubA_mem (lt : Int → Int → Bool) (a : Nat) : ∀ k xs, a + k < xs.length → ∀ v ∈ bubA lt a k xs, v ∈ xs
  | 0, _, _, v, h => h
  | k + 1, xs, hl, v, h => by
    simp only [bubA] at h
    cases hc : lt (xs.getD (a + k + 1) 0) (xs.getD (a + k) 0) with
    | true =>
      rw [hc] at h
      simp only [cond_true] at h
      have := bubA_mem lt a k _ (by simp only [List.length_set]; omega) v h
      rcases List.mem_or_eq_of_mem_set this with h2 | rfl
      · rcases List.mem_or_eq_of_mem_set h2 with h3 | rfl
        · exact h3
        · exact mem_getD (by omega)
      · exact mem_getD (by omega)
    | false =>
      rw [hc] at h
      exact h
theorem isN_len (lt : Int → Int → Bool) (a : Nat) : ∀ n xs, (isN lt a n xs).length = xs.length
  | 0, _ => rfl
  | n + 1, xs => by simp only [isN]; rw [bubA_len, isN_len]
theorem isN_mem (lt : Int → Int → Bool) (a : Nat) : ∀ n xs, a + n ≤ xs.length → ∀ v ∈ isN lt a n xs, v ∈ xs
  | 0, _, _, v, h => h
  | n + 1, xs, hl, v, h => by
    simp only [isN] at h
    exact isN_mem lt a n xs (by omega) v (bubA_mem lt a n _ (by rw [isN_len]; omega) v h)
theorem set_left {xs ys : List Int} {i : Nat} {v : Int} (h : i < xs.length) : (xs ++ ys).set i v = xs.set i v ++ ys := List.set_append_left i v h
theorem bubA_app (lt : Int → Int → Bool) : ∀ k (xs ys : List Int), k < xs.length → bubA lt 0 k (xs ++ ys) = bubA lt 0 k xs ++ ys
  | 0, _, _, _ => rfl
  | k + 1, xs, ys, h => by
    simp only [bubA]
    rw [getD_left (by omega), getD_left (by omega), set_left (by omega), set_left (by rw [List.length_set]; omega)]
    cases lt (xs.getD (0 + k + 1) 0) (xs.getD (0 + k) 0) with
    | true => simp only [cond_true]; exact bubA_app lt k _ ys (by simp only [List.length_set]; omega)
    | false => rfl
/-- Put into a list in descending order. -/
def insR (lt : Int → Int → Bool) : List Int → Int → List Int
  | [], v => [v]
  | w :: r, v => bif lt v w then w :: insR lt r v else v :: w :: r
theorem bub_ins (lt : Int → Int → Bool) (v : Int) : ∀ (r : List Int), bubA lt 0 r.length (r.reverse ++ [v]) = (insR lt r v).reverse
  | [] => rfl
  | w :: r => by
    have hl : r.reverse.length = r.length := by simp
    have e0 : (w :: r).reverse ++ [v] = r.reverse ++ [w, v] := by simp
    have g1 : (r.reverse ++ [w, v]).getD (0 + r.length + 1) 0 = v := by
      rw [show 0 + r.length + 1 = r.length + 1 by omega, getD_right hl]; rfl
    have g0 : (r.reverse ++ [w, v]).getD (0 + r.length) 0 = w := by
      have := getD_right (xs := r.reverse) (ys := [w, v]) (i := 0) hl
      rw [Nat.zero_add]
      exact this
    rw [e0]
    show bubA lt 0 (r.length + 1) _ = _
    simp only [bubA, g0, g1, insR]
    cases lt v w with
    | true =>
      have hs : ((r.reverse ++ [w, v]).set (0 + r.length + 1) w).set (0 + r.length) v = (r.reverse ++ [v]) ++ [w] := by
        rw [Nat.zero_add, List.set_append_right _ _ (by omega), List.set_append_right _ _ (by omega), hl, Nat.sub_self, show r.length + 1 - r.length = 1 by omega]
        simp
      simp only [cond_true]
      rw [hs, bubA_app lt r.length _ _ (by simp), bub_ins lt v r, List.reverse_cons]
    | false => simp
/-- The places of numbers in ascending order. -/
def ltD (da : List Int) (x y : Int) : Bool := decide (da.getD x.toNat 0 < da.getD y.toNat 0)
def grN (da : List Int) : Nat → List Int
  | 0 => []
  | n + 1 => bubA (ltD da) 0 n (grN da n ++ [(n : Int)])
theorem grN_length (da : List Int) : ∀ n, (grN da n).length = n
  | 0 => rfl
  | n + 1 => by simp only [grN]; rw [bubA_len, List.length_append, grN_length]; rfl
theorem grN_succ (da : List Int) (n : Nat) : (grN da (n + 1)).reverse = insR (ltD da) (grN da n).reverse (n : Int) := by
  have := bub_ins (ltD da) (n : Int) (grN da n).reverse
  rw [List.reverse_reverse, List.length_reverse, grN_length] at this
  simp only [grN]
  rw [this, List.reverse_reverse]
def upN (n : Nat) : List Int := tab n fun i => (i : Int)
theorem upN_length (n : Nat) : (upN n).length = n := tab_length _ _
theorem upN_succ (n : Nat) : upN (n + 1) = upN n ++ [(n : Int)] := tab_succ _ _
theorem insR_perm (lt : Int → Int → Bool) (v : Int) : ∀ r : List Int, (insR lt r v).Perm (v :: r)
  | [] => List.Perm.refl _
  | w :: r => by
    simp only [insR]
    cases lt v w with
    | true => exact ((insR_perm lt v r).cons w).trans (List.Perm.swap v w r)
    | false => exact List.Perm.refl _
theorem grN_perm (da : List Int) : ∀ n, (grN da n).Perm (upN n)
  | 0 => List.Perm.refl _
  | n + 1 => by
    have h1 := insR_perm (ltD da) (n : Int) (grN da n).reverse
    rw [← grN_succ] at h1
    have h2 : (grN da (n + 1)).Perm ((n : Int) :: (grN da n).reverse) := (List.reverse_perm _).symm.trans h1
    have h3 : ((n : Int) :: (grN da n).reverse).Perm ((n : Int) :: upN n) := ((List.reverse_perm _).trans (grN_perm da n)).cons _
    rw [upN_succ]
    exact (h2.trans h3).trans (List.perm_append_singleton _ _).symm
/-- By numbers, and by places where these are equal. -/
def lexD (da : List Int) (x y : Int) : Prop := da.getD x.toNat 0 < da.getD y.toNat 0 ∨ da.getD x.toNat 0 = da.getD y.toNat 0 ∧ x < y
theorem lex_trans {da : List Int} {x y z : Int} (h1 : lexD da x y) (h2 : lexD da y z) : lexD da x z := by
  unfold lexD at *
  omega
theorem insR_mem {lt : Int → Int → Bool} {v x : Int} {r : List Int} (h : x ∈ insR lt r v) : x = v ∨ x ∈ r := by
  have := (insR_perm lt v r).mem_iff.1 h
  simpa using this
theorem insR_desc {da : List Int} {v : Int} : ∀ {r : List Int}, r.Pairwise (fun x y => lexD da y x) → (∀ x ∈ r, x < v) → (insR (ltD da) r v).Pairwise fun x y => lexD da y x
  | [], _, _ => List.pairwise_singleton _ _
  | w :: r, h, hv => by
    have h' := List.pairwise_cons.1 h
    simp only [insR]
    cases hc : ltD da v w with
    | true =>
      simp only [cond_true]
      refine List.pairwise_cons.2 ⟨fun z hz => ?_, insR_desc h'.2 fun x hx => hv x (by simp [hx])⟩
      rcases insR_mem hz with rfl | hz
      · exact .inl (of_decide_eq_true hc)
      · exact h'.1 z hz
    | false =>
      have hw := hv w (by simp)
      have hc2 : ¬ da.getD v.toNat 0 < da.getD w.toNat 0 := of_decide_eq_false hc
      have hvw : lexD da w v := by unfold lexD; omega
      simp only [cond_false]
      refine List.pairwise_cons.2 ⟨fun z hz => ?_, h⟩
      rcases List.mem_cons.1 hz with rfl | hz
      · exact hvw
      · exact lex_trans (h'.1 z hz) hvw
theorem upN_mem {n : Nat} {x : Int} : x ∈ upN n ↔ 0 ≤ x ∧ x < (n : Int) := by
  constructor
  · intro h
    obtain ⟨i, hi, rfl⟩ := tab_mem h
    omega
  · intro h
    have : (upN n).getD x.toNat 0 = x := by rw [upN, tab_getD (by omega)]; omega
    rw [← this]
    exact mem_getD (by rw [upN_length]; omega)
theorem grN_mem {da : List Int} {n : Nat} {x : Int} : x ∈ grN da n ↔ 0 ≤ x ∧ x < (n : Int) := by
  rw [(grN_perm da n).mem_iff, upN_mem]
theorem grN_desc (da : List Int) : ∀ n, (grN da n).reverse.Pairwise fun x y => lexD da y x
  | 0 => List.Pairwise.nil
  | n + 1 => by
    rw [grN_succ]
    exact insR_desc (grN_desc da n) fun x hx => by
      have := grN_mem.1 (List.mem_reverse.1 hx)
      omega
theorem grN_lex (da : List Int) (n : Nat) : (grN da n).Pairwise (lexD da) := by
  have := grN_desc da n
  rw [List.pairwise_reverse] at this
  exact this
theorem isN_up (da : List Int) (N : Nat) : ∀ n, n ≤ N → isN (ltD da) 0 n (upN N) = grN da n ++ (upN N).drop n
  | 0, _ => by simp [isN, grN]
  | n + 1, h => by
    have e : (upN N).drop n = (n : Int) :: (upN N).drop (n + 1) := by
      rw [dropS (by rw [upN_length]; omega)]
      congr 1
      have : (upN N).getD n 0 = (n : Int) := by rw [upN, tab_getD (by omega)]
      rw [← this]
      simp [upN_length, show n < N by omega]
    simp only [isN]
    rw [isN_up da N n (by omega), e, show grN da n ++ (n : Int) :: (upN N).drop (n + 1) = (grN da n ++ [(n : Int)]) ++ (upN N).drop (n + 1) by simp, bubA_app _ _ _ _ (by rw [List.length_append, grN_length, List.length_singleton]; omega)]
    rfl
theorem isN_all (da : List Int) (N : Nat) : isN (ltD da) 0 N (upN N) = grN da N := by
  rw [isN_up da N N (Nat.le_refl _), List.drop_eq_nil_of_le (by rw [upN_length]; omega), List.append_nil]
def gdC (da : List Int) (i j : Int) : Int := cmpV (da.getD i.toNat 0) (da.getD j.toNat 0)
def gdB (da : List Int) (i j : Int) : Bool := decide (0 ≤ i) && decide (i < ((da.length : Nat) : Int)) && (decide (0 ≤ j) && decide (j < ((da.length : Nat) : Int)))
def gdQ (da : List Int) : List Q → Bool | [.i i, .i j] => gdB da i j | _ => false
theorem ltG_gd (da : List Int) : ltG (q2v (gdC da)) = ltD da := by
  funext x y
  show decide (cmpV (da.getD x.toNat 0) (da.getD y.toNat 0) < 0) = decide (da.getD x.toNat 0 < da.getD y.toNat 0)
  generalize da.getD x.toNat 0 = p
  generalize da.getD y.toNat 0 = q
  unfold cmpV
  by_cases h : p < q
  · rw [decide_eq_true h]; rfl
  · rw [decide_eq_false h]
    by_cases h2 : p > q
    · rw [decide_eq_true h2]; rfl
    · rw [decide_eq_false h2]; rfl
theorem gd_dom {da : List Int} {xs : List Int} (h : ∀ x ∈ xs, 0 ≤ x ∧ x < ((da.length : Nat) : Int)) : domA (gdQ da) xs = true := by
  simp only [domA, List.all_eq_true, gdQ, gdB, Bool.and_eq_true, decide_eq_true_eq]
  intro x hx y hy
  exact ⟨h x hx, h y hy⟩
def guS (sh da : List Int) : List Int := bif vcB sh da then [((da.length : Nat) : Int)] else []
def guD (sh da : List Int) : List Int := bif vcB sh da then grN da da.length else []
def soL' (da : List Int) : List Int := pkN da (grN da da.length)
def soS (sh da : List Int) : List Int := bif vcB sh da then [((da.length : Nat) : Int)] else []
def soD (sh da : List Int) : List Int := bif vcB sh da then soL' da else []
end Go.Ab
namespace Go.Ab
theorem gr_valid {da : List Int} (hl : da.length ≤ 60) : vecOk (grN da da.length) = true := vec_part (by rw [grN_length]; exact hl) fun x hx => by
  have := grN_mem.1 hx
  omega
theorem gr_in (da : List Int) : allB (grN da da.length) 0 (((da.length : Nat) : Int) - 1) = true := allB_iff.2 fun x hx => by
  have := grN_mem.1 hx
  omega
theorem so_len (da : List Int) : (soL' da).length = da.length := by unfold soL'; rw [pkN_length, grN_length]
theorem so_mem {da : List Int} {x : Int} (h : x ∈ soL' da) : x ∈ da := by
  obtain ⟨i, hi, rfl⟩ := tab_mem h
  have := grN_mem.1 (mem_getD hi)
  exact mem_getD (by omega)
theorem gu_pick {sh da : List Int} (hb : vcB sh da = true) : pkB sh da [((da.length : Nat) : Int)] (grN da da.length) = true ∧ pkS sh da [((da.length : Nat) : Int)] (grN da da.length) = [((da.length : Nat) : Int)] ∧ pkD sh da [((da.length : Nat) : Int)] (grN da da.length) = soL' da := by
  obtain ⟨_, _, hl, _⟩ := vcB_inv hb
  have hv := validA_vec (gr_valid hl)
  rw [grN_length] at hv
  have h1 : pkB sh da [((da.length : Nat) : Int)] (grN da da.length) = true := by simp only [pkB, hb, hv, gr_in da, Bool.and_self]
  exact ⟨h1, by simp only [pkS, h1, cond_true], by simp only [pkD, h1, cond_true]; rfl⟩
end Go.Ab
namespace Go.Ab
theorem sSh_one {bs : List Int} {p x : Int} (h : rdOk bs p = true) (hp : p ≤ 2000000) (hx : sShV bs p = [x]) : x ≤ 6 := by
  have a7 := pick_bd (n := 7) (rd_le (q := p + 1) h (by omega) (by omega)) (by omega)
  unfold sShV at hx
  generalize pickV bs (p + 1) 7 = c at *
  cases h0 : pickV bs p 8 == 0 with
  | true => rw [h0] at hx; simp at hx
  | false =>
    rw [h0, cond_false] at hx
    cases h1 : pickV bs p 8 == 1 with
    | true => rw [h1] at hx; simp at hx; omega
    | false =>
      rw [h1, cond_false] at hx
      cases h2 : pickV bs p 8 == 2 with
      | true => rw [h2] at hx; simp at hx; omega
      | false =>
        rw [h2, cond_false] at hx
        cases h3 : pickV bs p 8 == 3 with
        | true => rw [h3] at hx; simp at hx; omega
        | false =>
          rw [h3, cond_false] at hx
          cases h4 : pickV bs p 8 == 4 with
          | true => rw [h4] at hx; simp at hx
          | false =>
            rw [h4, cond_false] at hx
            cases h5 : pickV bs p 8 == 5 with
            | true => rw [h5] at hx; simp at hx
            | false =>
              rw [h5, cond_false] at hx
              cases h6 : pickV bs p 8 == 6 with
              | true => rw [h6] at hx; simp at hx
              | false => rw [h6] at hx; simp at hx
theorem aSh_one {bs : List Int} {p : Int} {n : Nat} (h : rdOk bs p = true) (hp : p ≤ 2000000) (hn : n ≤ 60) (hx : aShV bs p = [(n : Int)]) : n ≤ 6 := by
  unfold aShV at hx
  cases h0 : pickV bs (sShP bs p) 24 == 0 with
  | true =>
    rw [h0, cond_true] at hx
    cases hq : sShV bs p with
    | nil => rw [hq] at hx; simp at hx; try omega
    | cons a t => rw [hq] at hx; simp at hx
  | false =>
    rw [h0, cond_false] at hx
    cases h1 : pickV bs (sShP bs p) 24 == 1 with
    | true => rw [h1] at hx; simp at hx
    | false =>
      rw [h1, cond_false] at hx
      cases h2 : pickV bs (sShP bs p) 24 == 2 with
      | true => rw [h2] at hx; simp at hx
      | false =>
        rw [h2, cond_false] at hx
        cases h3 : pickV bs (sShP bs p) 24 == 3 with
        | true =>
          rw [h3, cond_true] at hx
          cases hq : sShV bs p with
          | nil => rw [hq] at hx; simp at hx; try omega
          | cons a t => rw [hq] at hx; simp at hx
        | false =>
          rw [h3, cond_false] at hx
          have := sSh_one h hp hx
          omega
theorem av_small {bs : List Int} (h : rdOk bs 0 = true) (hb : vcB (avS bs 0) (avD bs 0) = true) : (avD bs 0).length ≤ 20 := by
  obtain ⟨_, hs, h60, _⟩ := vcB_inv hb
  have hn := (avN_bd h (by omega)).1
  unfold avS at hs
  unfold avD at hs h60 ⊢
  cases hc : avC bs 0 with
  | false => simp only [cond_false, avV, tab_length]; omega
  | true =>
    have r1 := rd_le (q := 0 + 1) h (by omega) (by omega)
    rw [hc, cond_true] at hs h60
    rw [cond_true] at hs ⊢
    have hsd := sDa_bd r1 (by omega)
    have hv := sShV_ok r1 (by omega)
    have hfl : (sDaV bs (0 + 1)).length = (volW (sShV bs (0 + 1))).toNat := tab_length _ _
    have r2 : rdOk bs (sDaP bs (0 + 1) + 1) = true := rd_le h (by omega) (by omega)
    unfold aArS at hs
    unfold aArD at hs h60 ⊢
    cases h0 : pickV bs (sDaP bs (0 + 1)) 30 == 0 with
    | true =>
      rw [h0, cond_true] at hs h60
      rw [cond_true] at hs ⊢
      have := aSh_one r2 (by omega) h60 hs
      omega
    | false =>
      rw [h0, cond_false] at hs h60
      rw [cond_false] at hs ⊢
      have h1 : (sShV bs (0 + 1)).length = 1 := by rw [hs]; rfl
      have key : (sDaV bs (0 + 1)).length ≤ 6 := by
        match hq : sShV bs (0 + 1), h1 with
        | [x], _ =>
          have hx := sSh_one r1 (by omega) hq
          rw [hfl, hq]
          rw [hq] at hv
          have := allB_iff.1 (validS_inv hv).2.1 x (by simp)
          rw [show volW [x] = IntKind.wrap .i64 (1 * x) from rfl, Int.one_mul, wS (by omega) (by omega)]
          omega
      cases hc1 : pickV bs (sDaP bs (0 + 1)) 30 == 1 with
      | true =>
        have := sp_len bs (sDaP bs (0 + 1) + 1) (sDaV bs (0 + 1) ++ [5]) 1000001
        simp only [List.length_append, List.length_singleton] at this
        simp only [cond_true]
        omega
      | false => simp only [cond_false]; omega
theorem pk_map (da pl : List Int) : pkN da pl = pl.map fun x => da.getD x.toNat 0 := by
  symm
  unfold pkN
  refine tab_ext (by rw [List.length_map]) fun i hi => ?_
  exact map_getD hi
theorem pk_up (da : List Int) : pkN da (upN da.length) = da := by
  unfold pkN
  rw [upN_length]
  refine Eq.trans (tab_congr fun i hi => ?_) (tab_self da)
  rw [upN, tab_getD hi, Int.toNat_natCast]
theorem so_perm (da : List Int) : (soL' da).Perm da := by
  have := (grN_perm da da.length).map fun x => da.getD x.toNat 0
  rw [← pk_map, ← pk_map, pk_up] at this
  exact this
theorem so_up (da : List Int) : (soL' da).Pairwise (· ≤ ·) := by
  unfold soL'
  rw [pk_map]
  refine List.Pairwise.map _ (fun a b h => ?_) (grN_lex da da.length)
  unfold lexD at h
  omega
theorem up_eq {xs ys : List Int} (h1 : xs.Pairwise (· ≤ ·)) (h2 : ys.Pairwise (· ≤ ·)) (h : xs.Perm ys) : xs = ys :=
  List.Perm.eq_of_pairwise (fun a b _ _ h1 h2 => by omega) h1 h2 h
theorem so_of {da db : List Int} (h : da.Perm db) : soL' da = soL' db := up_eq (so_up da) (so_up db) (((so_perm da).trans h).trans (so_perm db).symm)
theorem so_self {da : List Int} (h : da.Pairwise (· ≤ ·)) : soL' da = da := up_eq (so_up da) h (so_perm da)
theorem upN_up (n : Nat) : (upN n).Pairwise (· < ·) := by
  induction n with
  | zero => exact List.Pairwise.nil
  | succ n ih =>
    rw [upN_succ]
    refine List.pairwise_append.2 ⟨ih, List.pairwise_singleton _ _, fun a ha b hb => ?_⟩
    have := upN_mem.1 ha
    simp at hb
    omega
theorem so_gr (da : List Int) : soL' (grN da da.length) = upN da.length := up_eq (so_up _) ((upN_up _).imp fun h => by omega) ((so_perm _).trans (grN_perm _ _))
theorem pair_get {R : Int → Int → Prop} {xs : List Int} (h : xs.Pairwise R) {i j : Nat} (hij : i < j) (hj : j < xs.length) : R (xs.getD i 0) (xs.getD j 0) := by
  have := List.pairwise_iff_getElem.1 h i j (by omega) hj hij
  simpa [hj, show i < xs.length by omega] using this
theorem gr_back (da : List Int) : pkN (soL' da) (grN (grN da da.length) da.length) = da := by
  have h1 := so_gr da
  unfold soL' at h1
  rw [grN_length] at h1
  have hl := grN_length (grN da da.length) da.length
  have hg := grN_length da da.length
  unfold pkN
  rw [hl]
  refine Eq.trans (tab_congr fun i hi => ?_) (tab_self da)
  have hm := grN_mem.1 (mem_getD (A := grN (grN da da.length) da.length) (n := i) (by rw [hl]; exact hi))
  have h2 : (pkN (grN da da.length) (grN (grN da da.length) da.length)).getD i 0 = (i : Int) := by rw [h1, upN, tab_getD hi]
  simp only [pkN] at h2
  rw [hl, tab_getD hi] at h2
  simp only [soL', pkN]
  rw [hg, tab_getD (by omega), h2, Int.toNat_natCast]
theorem uq_nodup {u : List Int} (h : ∀ i, i < u.length → (u.take i).contains (u.getD i 0) = false) : u.Nodup := by
  unfold List.Nodup
  rw [List.pairwise_iff_getElem]
  intro i j hi hj hij he
  have := h j hj
  have h2 : (u.take j).contains (u.getD j 0) = true := by
    rw [contains_iff]
    have e : u.getD j 0 = (u.take j).getD i 0 := by simp [hj, hi, hij, he]
    rw [e]
    exact mem_getD (by rw [List.length_take]; omega)
  rw [h2] at this
  exact absurd this (by simp)
theorem uq_sub (da : List Int) : ∀ n, n ≤ da.length → (uqC da n).Sublist (da.take n)
  | 0, _ => by simp [uqC]
  | n + 1, h => by
    have e : da.take (n + 1) = da.take n ++ [da.getD n 0] := (take_push (by omega) rfl).symm
    rw [e]
    show (bif (uqC da n).contains (da.getD n 0) then uqC da n else uqC da n ++ [da.getD n 0]).Sublist _
    cases (uqC da n).contains (da.getD n 0) with
    | true => exact (uq_sub da n (by omega)).trans (List.sublist_append_left _ _)
    | false => exact (uq_sub da n (by omega)).append (List.Sublist.refl _)
theorem so_uq (da : List Int) : uqC (soL' da) (soL' da).length = soL' (uqC da da.length) := by
  have hn1 := uq_nodup (uq_fresh da da.length)
  have hn2 := uq_nodup (uq_fresh (soL' da) (soL' da).length)
  have s2 := uq_sub (soL' da) (soL' da).length (Nat.le_refl _)
  rw [List.take_length] at s2
  have m1 := uqC_mem da da.length (Nat.le_refl _)
  rw [List.take_length] at m1
  have m2 := uqC_mem (soL' da) (soL' da).length (Nat.le_refl _)
  rw [List.take_length] at m2
  refine up_eq (List.Pairwise.sublist s2 (so_up da)) (so_up _) ?_
  refine ((List.perm_ext_iff_of_nodup hn2 hn1).2 fun a => ?_).trans (so_perm _).symm
  rw [m1, m2, (so_perm da).mem_iff]
theorem so_lt {u : List Int} (h : u.Nodup) : (soL' u).Pairwise (· < ·) := by
  have h1 := so_up u
  have h2 : (soL' u).Nodup := (so_perm u).nodup_iff.2 h
  exact (List.Pairwise.and h1 h2).imp fun h => by omega
theorem rev_one {da : List Int} (h : validA [((da.length : Nat) : Int)] da = true) : revS [((da.length : Nat) : Int)] da 0 = [((da.length : Nat) : Int)] ∧ revD [((da.length : Nat) : Int)] da 0 = da.reverse := by
  have hax : axB [((da.length : Nat) : Int)] da 0 = true := axB_of (k := 0) h (by simp)
  refine ⟨by simp only [revS, hax, cond_true], ?_⟩
  simp only [revD, hax, cond_true]
  have hL : lenK [((da.length : Nat) : Int)] 0 = da.length := by simp [lenK, lenN]
  have hl : (rvL da.length).length = da.length := rvL_length _
  have b0 : befN [((da.length : Nat) : Int)] 0 = 1 := by simp [befN, prodN]
  have m0 : behN [((da.length : Nat) : Int)] 0 = 1 := by simp [behN, prodN]
  have l0 : lenN [((da.length : Nat) : Int)] 0 = da.length := by simp [lenN]
  rw [hL]
  have hlen : (alA [((da.length : Nat) : Int)] da 0 (rvL da.length)).length = da.length := by
    have := alA_length [((da.length : Nat) : Int)] da 0 (rvL da.length)
    simp only [hl, b0, m0, Int.toNat_natCast, Nat.one_mul, Nat.mul_one] at this
    exact this
  refine List.ext_getElem (by rw [hlen, List.length_reverse]) fun i h1 h2 => ?_
  have hi : i < da.length := by rw [hlen] at h1; exact h1
  have := alA_get (sh := [((da.length : Nat) : Int)]) (da := da) (k := 0) (ls := rvL da.length) (b := 0) (i := i) (m := 0) (by rw [b0]; omega) (by rw [hl]; exact hi) (by rw [m0]; omega)
  rw [hl, m0, Nat.zero_mul, Nat.zero_add, Nat.mul_one, Nat.add_zero] at this
  have e1 : (alA [((da.length : Nat) : Int)] da 0 (rvL da.length))[i] = (alA [((da.length : Nat) : Int)] da 0 (rvL da.length)).getD i 0 := by
    rw [List.getD_eq_getElem?_getD, List.getElem?_eq_getElem h1]; rfl
  rw [Int.natCast_zero] at this
  rw [e1, this, rvL, tab_getD hi]
  simp only [atV, l0]
  rw [List.getElem_reverse]
  simp [show da.length - 1 - i < da.length by omega]
theorem so_ends {da : List Int} (h : da ≠ []) : (soL' da).getD 0 0 = redF 4 da ∧ (soL' da).getD (da.length - 1) 0 = redF 5 da := by
  have hl : 0 < da.length := List.length_pos_iff.2 h
  have hs := so_len da
  obtain ⟨a1, a2⟩ := red_min h
  obtain ⟨b1, b2⟩ := red_max h
  have get : ∀ v, v ∈ da → ∃ i, i < da.length ∧ (soL' da).getD i 0 = v := fun v hv => by
    have := (so_perm da).mem_iff.2 hv
    obtain ⟨i, hi, e⟩ := List.getElem_of_mem this
    exact ⟨i, by omega, by simp [hi, e]⟩
  constructor
  · obtain ⟨i, hi, e⟩ := get _ a1
    have h0 := a2 _ (so_mem (mem_getD (A := soL' da) (n := 0) (by omega)))
    by_cases hz : i = 0
    · rw [hz] at e; exact e
    · have := pair_get (so_up da) (i := 0) (j := i) (by omega) (by omega)
      omega
  · obtain ⟨i, hi, e⟩ := get _ b1
    have h0 := b2 _ (so_mem (mem_getD (A := soL' da) (n := da.length - 1) (by omega)))
    by_cases hz : i = da.length - 1
    · rw [hz] at e; exact e
    · have := pair_get (so_up da) (i := i) (j := da.length - 1) (by omega) (by omega)
      omega
theorem so_valid {da : List Int} (h : vecOk da = true) : vecOk (soL' da) = true := by
  obtain ⟨_, _, hl, hall⟩ := vcB_inv (vcB_of h)
  refine vec_part (by rw [so_len]; exact hl) fun x hx => ?_
  have := allB_iff.1 hall x (so_mem hx)
  omega
theorem vcB_vec {sh da : List Int} (h : vcB sh da = true) : vecOk da = true := by
  obtain ⟨_, _, hl, hall⟩ := vcB_inv h
  exact vec_part hl fun x hx => by have := allB_iff.1 hall x hx; omega
theorem cnt_up {n : Nat} (h : n ≤ 60) : cntS ((n : Nat) : Int) = [((n : Nat) : Int)] ∧ cntD ((n : Nat) : Int) = upN n := by
  have hc : cntOk ((n : Nat) : Int) = true := by simp only [cntOk, Bool.and_eq_true, decide_eq_true_eq]; omega
  refine ⟨by simp only [cntS, hc, cond_true], ?_⟩
  simp only [cntD, hc, cond_true, Int.toNat_natCast]
  rfl
end Go.Ab
namespace Go.Ab
theorem gu_facts {sh da : List Int} (h : vcB sh da = true) : guS sh da = [((da.length : Nat) : Int)] ∧ guD sh da = grN da da.length ∧ vecOk (grN da da.length) = true := by
  obtain ⟨_, _, hl, _⟩ := vcB_inv h
  exact ⟨by simp only [guS, h, cond_true], by simp only [guD, h, cond_true], gr_valid hl⟩
theorem so_facts {sh da : List Int} (h : vcB sh da = true) : soS sh da = [((da.length : Nat) : Int)] ∧ soD sh da = soL' da ∧ vecOk (soL' da) = true :=
  ⟨by simp only [soS, h, cond_true], by simp only [soD, h, cond_true], so_valid (vcB_vec h)⟩
theorem gu_two {da : List Int} (hl : da.length ≤ 60) : vcB [((da.length : Nat) : Int)] (grN da da.length) = true := by
  have := vcB_of (gr_valid hl)
  rwa [grN_length] at this
theorem so_two {da : List Int} (h : vecOk da = true) : vcB [((da.length : Nat) : Int)] (soL' da) = true := by
  have := vcB_of (so_valid h)
  rwa [so_len] at this
theorem so_pick {da : List Int} (h : vecOk da = true) : pkB [((da.length : Nat) : Int)] (soL' da) [((da.length : Nat) : Int)] (grN (grN da da.length) da.length) = true ∧ pkS [((da.length : Nat) : Int)] (soL' da) [((da.length : Nat) : Int)] (grN (grN da da.length) da.length) = [((da.length : Nat) : Int)] ∧ pkD [((da.length : Nat) : Int)] (soL' da) [((da.length : Nat) : Int)] (grN (grN da da.length) da.length) = da := by
  have hl := (vcB_inv (vcB_of h)).2.2.1
  have h2 := gr_valid (da := grN da da.length) (by rw [grN_length]; exact hl)
  rw [grN_length] at h2
  have h3 := validA_vec h2
  rw [grN_length] at h3
  have h4 : allB (grN (grN da da.length) da.length) 0 (((da.length : Nat) : Int) - 1) = true := allB_iff.2 fun x hx => by
    have := grN_mem.1 hx
    omega
  have h1 : pkB [((da.length : Nat) : Int)] (soL' da) [((da.length : Nat) : Int)] (grN (grN da da.length) da.length) = true := by simp only [pkB, so_two h, h3, so_len, h4, Bool.and_self]
  exact ⟨h1, by simp only [pkS, h1, cond_true], by simp only [pkD, h1, cond_true]; exact gr_back da⟩
end Go.Ab
namespace Go.Ab
theorem in_num {f g : Int} {sa da sb db : List Int} (hb : inB f g sa da sb db = true) {n : Nat} (hn : n < prodN (inSh sa sb)) : numB (redF f (inL (q2v (operF g)) sa da sb db n)) = true := by
  have hA := (inB_A hb).1
  obtain ⟨x1, x2, x3, x4, x5⟩ := inX_eq hA hn
  obtain ⟨a1, a2, a3, a4, a5, a6, a7⟩ := inA_inv hA
  simp only [inB, Bool.and_eq_true, decide_eq_true_eq] at hb
  obtain ⟨⟨⟨⟨⟨hf, hg⟩, _⟩, _⟩, _⟩, _⟩ := hb
  refine red_num hf fun x hx => ?_
  unfold inL at hx
  rw [pwD_q2] at hx
  obtain ⟨i, hi, rfl⟩ := tab_mem hx
  have ex : inX sa da sb n = lnK sa da ((sa.length - 1 : Nat) : Int) (n / behN sb 0) 0 := by rw [inX, a6]
  have ey : inY sb db n = lnK sb db ((0 : Nat) : Int) 0 (n % behN sb 0) := rfl
  have lx : (inX sa da sb n).length = lenN sa (sa.length - 1) := by rw [x1, lnD_length]
  have ly : (inY sb db n).length = lenN sb 0 := by rw [x2, lnD_length]
  obtain ⟨_, _, _, hv, _⟩ := axB_inv a1
  obtain ⟨h0, hv2, _⟩ := axB_zero a2
  refine numB_of (operF_bd hg ?_ ?_)
  · have hm := mem_getD (A := inX sa da sb n) (n := i) hi
    refine ln_num hv (show sa.length - 1 < sa.length by omega) x3 (m := 0) (by rw [a7]; omega) _ ?_
    rw [← ex]; exact hm
  · have hm := mem_getD (A := inY sb db n) (n := i) (by omega)
    refine ln_num hv2 (k := 0) h0 (i := 0) (by rw [x5]; omega) x4 _ ?_
    rw [← ey]; exact hm
theorem in_valid {f g : Int} {sa da sb db : List Int} (hb : inB f g sa da sb db = true) : validA (inSh sa sb) (inN f g sa da sb db) = true := by
  obtain ⟨hA, hs, hvol, h60⟩ := inB_A hb
  simp only [validA, hs, Bool.true_and, Bool.and_eq_true, beq_iff_eq]
  refine ⟨by rw [inN, tab_length, hvol], allB_iff.2 fun v hv => ?_⟩
  obtain ⟨i, hi, rfl⟩ := tab_mem hv
  exact numB_inv (in_num hb hi)
/-- Products with zeros. -/
theorem red_no1 : ∀ n, redF 1 (List.replicate n 0) = 0
  | 0 => rfl
  | 1 => rfl
  | n + 2 => by
    rw [List.replicate_succ, redF_cons (by simp), red_no1 (n + 1)]
    rfl
theorem mul_zero' (x : Int) : operF 3 x 0 = 0 := by
  show limV (IntKind.wrap .i64 (x * 0)) = 0
  rw [Int.mul_zero, wS (by omega) (by omega)]
  rfl
theorem in_zero {sa da sb db z : List Int} (hb : inB 1 3 sa da sb db = true) (hz : z = List.replicate db.length 0) : inB 1 3 sa da sb z = true ∧ ∀ i, (inN 1 3 sa da sb z).getD i 0 = 0 := by
  have hb' := hb
  simp only [inB, Bool.and_eq_true, decide_eq_true_eq] at hb'
  obtain ⟨⟨⟨⟨⟨h1, h2⟩, h3⟩, h4⟩, h5⟩, h6⟩ := hb'
  obtain ⟨h0, hv2, _⟩ := axB_zero h4
  have zg : ∀ i, z.getD i 0 = 0 := fun i => by
    rw [hz, List.getD_eq_getElem?_getD, List.getElem?_replicate]
    split <;> rfl
  have hzv : validA sb z = true := valid_same hv2 (by rw [hz, List.length_replicate]) fun i _ => by rw [zg]; rfl
  have h7 : axB sb z 0 = true := axB_of (k := 0) hzv h0
  refine ⟨by simp only [inB, h1, h2, h3, h6, h7, h5, decide_true, Bool.and_self], fun i => ?_⟩
  by_cases hi : i < prodN (inSh sa sb)
  · rw [inN, tab_getD hi]
    unfold inL
    rw [pwD_q2]
    have hy : ∀ j, (inY sb z i).getD j 0 = 0 := fun j => by
      have : inY sb z i = List.replicate (lenN sb 0) 0 := tab_const fun j _ => zg _
      rw [this, List.getD_eq_getElem?_getD, List.getElem?_replicate]
      split <;> rfl
    have : (tab (inX sa da sb i).length fun j => operF 3 ((inX sa da sb i).getD j 0) ((inY sb z i).getD j 0)) = List.replicate (inX sa da sb i).length 0 := tab_const fun j _ => by rw [hy, mul_zero']
    rw [this, red_no1]
  · have : (inN 1 3 sa da sb z).length ≤ i := by rw [inN, tab_length]; omega
    simp [this]
/-- Rows of products. -/
theorem tab_cut {N a M : Nat} {f : Nat → Int} (h : a + M ≤ N) : ((tab N f).drop a).take M = tab M fun n => f (a + n) :=
  tab_ext (by rw [List.length_take, List.length_drop, tab_length]; omega) fun i hi => by rw [getD_cut hi, tab_getD (by omega)]
theorem in_row {f g : Int} {a k : Int} {da sb db : List Int} {i : Nat} (hb : inB f g [a, k] da sb db = true) (hi : (i : Int) < a) :
    ceB [a, k] da (i : Int) = true ∧ inB f g (ceS [a, k] da (i : Int)) (ceD [a, k] da (i : Int)) sb db = true ∧ ceB (inS f g [a, k] da sb db) (inD f g [a, k] da sb db) (i : Int) = true ∧
    inS f g (ceS [a, k] da (i : Int)) (ceD [a, k] da (i : Int)) sb db = ceS (inS f g [a, k] da sb db) (inD f g [a, k] da sb db) (i : Int) ∧
    inD f g (ceS [a, k] da (i : Int)) (ceD [a, k] da (i : Int)) sb db = ceD (inS f g [a, k] da sb db) (inD f g [a, k] da sb db) (i : Int) := by
  have hN := in_valid hb
  have eS : inS f g [a, k] da sb db = a :: sb.drop 1 := by simp only [inS, hb, cond_true]; rfl
  have eD : inD f g [a, k] da sb db = inN f g [a, k] da sb db := by simp only [inD, hb, cond_true]
  have hN' : validA (a :: sb.drop 1) (inN f g [a, k] da sb db) = true := hN
  have hb' := hb
  simp only [inB, Bool.and_eq_true, decide_eq_true_eq] at hb'
  obtain ⟨⟨⟨⟨⟨h1, h2⟩, h3⟩, h4⟩, h5⟩, h6⟩ := hb'
  obtain ⟨_, _, _, hv, _⟩ := axB_inv h3
  obtain ⟨c1, c2, c3⟩ := ce_of hv hi
  obtain ⟨d1, d2, d3⟩ := ce_of hN' hi
  have q0 := allB_iff.1 (validS_inv (validA_inv hv).1).2.1
  have hk0 := q0 k (by simp)
  have ha0 := q0 a (by simp)
  obtain ⟨k, rfl⟩ : ∃ n : Nat, k = n := ⟨k.toNat, by omega⟩
  obtain ⟨a, rfl⟩ : ∃ n : Nat, a = n := ⟨a.toNat, by omega⟩
  have pk : prodN [(k : Int)] = k := by simp [prodN]
  obtain ⟨j, hj, _, _, _, _, hdl, hle, _, v4, v5, v6⟩ := ce_valid c1
  obtain rfl : i = j := by omega
  have hrow : validA [(k : Int)] (ceD [(a : Int), (k : Int)] da (i : Int)) = true := by rw [v4]; exact v6
  have hrl : (ceD [(a : Int), (k : Int)] da (i : Int)).length = k := by have := data_prod hrow; rw [pk] at this; exact this
  obtain ⟨_, _, _, _, _, _, hnl, hnle, _, _, _, w6⟩ := ce_valid d1
  have hs2 : validS (sb.drop 1) = true := (validA_inv w6).1
  have hrb : inB f g [(k : Int)] (ceD [(a : Int), (k : Int)] da (i : Int)) sb db = true := by
    have e1 : axB [(k : Int)] (ceD [(a : Int), (k : Int)] da (i : Int)) (inK [(k : Int)]) = true := axB_of (k := 0) hrow (by simp)
    have e2 : inSh [(k : Int)] sb = sb.drop 1 := rfl
    have e3 : lenN [(k : Int)] ([(k : Int)].length - 1) = lenN sb 0 := h5
    simp only [inB, h1, h2, e1, h4, e2, hs2, e3, decide_true, Bool.and_self]
  rw [eS, eD, d2, d3, c2]
  refine ⟨c1, hrb, d1, by simp only [inS, hrb, cond_true]; rfl, ?_⟩
  simp only [inD, hrb, cond_true]
  have hM : behN sb 0 = prodN (sb.drop 1) := rfl
  have hpr : prodN (inSh [(a : Int), (k : Int)] sb) = a * prodN (sb.drop 1) := by rw [inSh_prod, hM]; simp [befN, prodN]
  have hle2 : i * prodN (sb.drop 1) + prodN (sb.drop 1) ≤ a * prodN (sb.drop 1) := by
    have := Nat.mul_le_mul_right (prodN (sb.drop 1)) (show i + 1 ≤ a by omega)
    rwa [Nat.add_mul, Nat.one_mul] at this
  unfold inN
  rw [tab_cut (by rw [hpr]; exact hle2)]
  show tab (prodN (sb.drop 1)) _ = _
  refine tab_congr fun n hn => ?_
  obtain ⟨e0, e1, e2⟩ := enc2 (B := a) (M := prodN (sb.drop 1)) (show i < a by omega) hn
  unfold inL
  have ey : inY sb db n = inY sb db (i * prodN (sb.drop 1) + n) := by
    unfold inY
    rw [hM, e2, Nat.mod_eq_of_lt hn]
  have ex : inX [(k : Int)] (ceD [(a : Int), (k : Int)] da (i : Int)) sb n = inX [(a : Int), (k : Int)] da sb (i * prodN (sb.drop 1) + n) := by
    unfold inX
    rw [hM, e1, Nat.div_eq_of_lt hn]
    show lnK [(k : Int)] _ 0 0 0 = lnK [(a : Int), (k : Int)] da ((1 : Nat) : Int) i 0
    rw [lnK_vec hrl, c3, pk]
    symm
    have eL : lenN [(a : Int), (k : Int)] 1 = k := by simp [lenN]
    have eB : behN [(a : Int), (k : Int)] 1 = 1 := rfl
    have hdl2 : i * k + k ≤ da.length := by
      have : da.length = a * k := by have := data_prod hv; simpa [prodN] using this
      have h2 := Nat.mul_le_mul_right k (show i + 1 ≤ a by omega)
      rw [Nat.add_mul, Nat.one_mul] at h2
      omega
    simp only [lnK, Int.toNat_natCast, lnD, eL, eB]
    symm
    refine tab_ext (by rw [List.length_take, List.length_drop]; omega) fun j hj => ?_
    rw [getD_cut hj, Nat.mul_one, Nat.add_zero]
  rw [ey, ex]
end Go.Ab
namespace Go.Ab
/-- Turned matrices. -/
theorem tr_two {A B : Nat} {da : List Int} (hv : validA [(A : Int), (B : Int)] da = true) : trS [(A : Int), (B : Int)] da = [(B : Int), (A : Int)] ∧ validA [(B : Int), (A : Int)] (trD [(A : Int), (B : Int)] da) = true ∧ ∀ i j, i < A → j < B → (trD [(A : Int), (B : Int)] da).getD (j * A + i) 0 = da.getD (i * B + j) 0 := by
  obtain ⟨e1, e2, e3, e4, e5⟩ := tr_eq hv
  have e1' : trS [(A : Int), (B : Int)] da = [(B : Int), (A : Int)] := e1.trans rfl
  rw [e1'] at e3
  refine ⟨e1', e3, fun i j hi hj => ?_⟩
  have hl : da.length = A * B := by have := data_prod hv; simpa [prodN] using this
  obtain ⟨n0, n1, n2⟩ := enc2 (B := B) (M := A) hj hi
  have s0 : strd [(A : Int), (B : Int)] 0 = ((B : Nat) : Int) := by rw [strd_beh (ax_of (validA_inv hv).1 (k := 0) (by simp))]; simp [behN, prodN]
  have s1 : strd [(A : Int), (B : Int)] 1 = 1 := rfl
  rw [e2, mvN, tab_getD (by rw [hl, Nat.mul_comm A B]; exact n0)]
  have ed : dotW (plN (mvSh [(A : Int), (B : Int)] (trO [(A : Int), (B : Int)].length)) (j * A + i)) (mvSt [(A : Int), (B : Int)] (trO [(A : Int), (B : Int)].length)) = 0 + (((j * A + i) / behN [(B : Int), (A : Int)] 0 % lenN [(B : Int), (A : Int)] 0 : Nat) : Int) * strd [(A : Int), (B : Int)] 1 + (((j * A + i) / behN [(B : Int), (A : Int)] 1 % lenN [(B : Int), (A : Int)] 1 : Nat) : Int) * strd [(A : Int), (B : Int)] 0 := rfl
  have b0 : behN [(B : Int), (A : Int)] 0 = A := by simp [behN, prodN]
  have b1 : behN [(B : Int), (A : Int)] 1 = 1 := rfl
  have l0 : lenN [(B : Int), (A : Int)] 0 = B := by simp [lenN]
  have l1 : lenN [(B : Int), (A : Int)] 1 = A := by simp [lenN]
  rw [ed, s0, s1, b0, b1, l0, l1, n1, Nat.mod_eq_of_lt hj, Nat.div_one, n2]
  have e : 0 + (j : Int) * 1 + (i : Int) * ((B : Nat) : Int) = ((i * B + j : Nat) : Int) := by
    simp only [Int.natCast_add, Int.natCast_mul, Int.mul_one, Int.zero_add]
    exact Int.add_comm _ _
  rw [e, Int.toNat_natCast]
theorem in_at {g : Int} {A K B : Nat} {da db : List Int} {i j : Nat} (hi : i < A) (hj : j < B) : inL (q2v (operF g)) [(A : Int), (K : Int)] da [(K : Int), (B : Int)] db (i * B + j) = tab K fun t => operF g (da.getD (i * K + t) 0) (db.getD (t * B + j) 0) := by
  obtain ⟨n0, n1, n2⟩ := enc2 (B := A) (M := B) hi hj
  have b0 : behN [(K : Int), (B : Int)] 0 = B := by simp [behN, prodN]
  have b1 : behN [(A : Int), (K : Int)] 1 = 1 := rfl
  have l0 : lenN [(K : Int), (B : Int)] 0 = K := by simp [lenN]
  have l1 : lenN [(A : Int), (K : Int)] 1 = K := by simp [lenN]
  have ex : inX [(A : Int), (K : Int)] da [(K : Int), (B : Int)] (i * B + j) = tab K fun t => da.getD (i * K + t) 0 := by
    unfold inX
    rw [b0, n1]
    show lnK [(A : Int), (K : Int)] da ((1 : Nat) : Int) i 0 = _
    simp only [lnK, Int.toNat_natCast, lnD, l1, b1, Nat.mul_one, Nat.add_zero]
  have ey : inY [(K : Int), (B : Int)] db (i * B + j) = tab K fun t => db.getD (t * B + j) 0 := by
    unfold inY
    rw [b0, n2]
    show lnK [(K : Int), (B : Int)] db ((0 : Nat) : Int) 0 j = _
    simp only [lnK, Int.toNat_natCast, lnD, l0, b0, Nat.zero_mul, Nat.zero_add]
  unfold inL
  rw [pwD_q2, ex, ey, tab_length]
  exact tab_congr fun t ht => by rw [tab_getD ht, tab_getD ht]
theorem mul_turn (a b : Int) : operF 3 a b = operF 3 b a := by
  show limV (IntKind.wrap .i64 (a * b)) = limV (IntKind.wrap .i64 (b * a))
  rw [Int.mul_comm]
theorem in_turn {A K B : Nat} {da db : List Int} (hb : inB 1 3 [(A : Int), (K : Int)] da [(K : Int), (B : Int)] db = true) :
    inB 1 3 (trS [(K : Int), (B : Int)] db) (trD [(K : Int), (B : Int)] db) (trS [(A : Int), (K : Int)] da) (trD [(A : Int), (K : Int)] da) = true ∧
    inS 1 3 (trS [(K : Int), (B : Int)] db) (trD [(K : Int), (B : Int)] db) (trS [(A : Int), (K : Int)] da) (trD [(A : Int), (K : Int)] da) = trS (inS 1 3 [(A : Int), (K : Int)] da [(K : Int), (B : Int)] db) (inD 1 3 [(A : Int), (K : Int)] da [(K : Int), (B : Int)] db) ∧
    inD 1 3 (trS [(K : Int), (B : Int)] db) (trD [(K : Int), (B : Int)] db) (trS [(A : Int), (K : Int)] da) (trD [(A : Int), (K : Int)] da) = trD (inS 1 3 [(A : Int), (K : Int)] da [(K : Int), (B : Int)] db) (inD 1 3 [(A : Int), (K : Int)] da [(K : Int), (B : Int)] db) := by
  have hN := in_valid hb
  have hsh : inSh [(A : Int), (K : Int)] [(K : Int), (B : Int)] = [(A : Int), (B : Int)] := rfl
  have hsh2 : inSh [(B : Int), (K : Int)] [(K : Int), (A : Int)] = [(B : Int), (A : Int)] := rfl
  rw [hsh] at hN
  have eS : inS 1 3 [(A : Int), (K : Int)] da [(K : Int), (B : Int)] db = [(A : Int), (B : Int)] := by simp only [inS, hb, cond_true]; rfl
  have eD : inD 1 3 [(A : Int), (K : Int)] da [(K : Int), (B : Int)] db = inN 1 3 [(A : Int), (K : Int)] da [(K : Int), (B : Int)] db := by simp only [inD, hb, cond_true]
  have hb' := hb
  simp only [inB, Bool.and_eq_true, decide_eq_true_eq] at hb'
  obtain ⟨⟨⟨⟨⟨h1, h2⟩, h3⟩, h4⟩, h5⟩, h6⟩ := hb'
  obtain ⟨_, _, _, v1, _⟩ := axB_inv h3
  obtain ⟨_, _, _, v2, _⟩ := axB_inv h4
  obtain ⟨x1, x2, x3⟩ := tr_two v1
  obtain ⟨y1, y2, y3⟩ := tr_two v2
  obtain ⟨z1, z2, z3⟩ := tr_two hN
  rw [eS, eD, x1, y1, z1]
  have ax1 : axB [(B : Int), (K : Int)] (trD [(K : Int), (B : Int)] db) (inK [(B : Int), (K : Int)]) = true := axB_of (k := 1) y2 (by simp)
  have ax2 : axB [(K : Int), (A : Int)] (trD [(A : Int), (K : Int)] da) 0 = true := axB_of (k := 0) x2 (by simp)
  have hl : lenN [(B : Int), (K : Int)] ([(B : Int), (K : Int)].length - 1) = lenN [(K : Int), (A : Int)] 0 := rfl
  have hr : inB 1 3 [(B : Int), (K : Int)] (trD [(K : Int), (B : Int)] db) [(K : Int), (A : Int)] (trD [(A : Int), (K : Int)] da) = true := by
    simp only [inB, h1, h2, ax1, ax2, hsh2, (validA_inv z2).1, hl, decide_true, Bool.and_self]
  refine ⟨hr, by simp only [inS, hr, cond_true]; rfl, ?_⟩
  simp only [inD, hr, cond_true]
  have pBA : prodN [(B : Int), (A : Int)] = B * A := by simp [prodN]
  have pAB : prodN [(A : Int), (B : Int)] = A * B := by simp [prodN]
  refine ext2 (B := B) (M := A) (by rw [inN, tab_length, hsh2, pBA]) (by rw [data_prod z2, pBA]) fun b m hb hm => ?_
  obtain ⟨n0, _, _⟩ := enc2 (B := B) (M := A) hb hm
  obtain ⟨n3, _, _⟩ := enc2 (B := A) (M := B) hm hb
  rw [z3 m b hm hb, inN, inN, tab_getD (by rw [hsh2, pBA]; exact n0), tab_getD (by rw [hsh, pAB]; exact n3), in_at hb hm, in_at hm hb]
  congr 1
  refine tab_congr fun t ht => ?_
  rw [mul_turn, y3 t b ht hb, x3 m t hm ht]
end Go.Ab
namespace Go.Ab
/-- Masks that are drawn. -/
def zeR (bs : List Int) : Nat → Int → List Int → Int × List Int
  | 0, q, m => (q + 1, m ++ [1])
  | n + 1, q, m => bif pickV bs q 3 == 0 then zeR bs n (q + 1) (m ++ [0]) else (q + 1, m ++ [1])
def exR (bs : List Int) (p : Int) : Nat → Int × List Int
  | 0 => (p, [])
  | n + 1 => zeR bs (20 - (exR bs p n).2.length) (exR bs p n).1 (exR bs p n).2
def deT (bs : List Int) : List Int := spV bs (exR bs (dAxP bs) (drN bs)).1 (exR bs (dAxP bs) (drN bs)).2 2
theorem zeR_bd (bs : List Int) : ∀ n q m, (zeR bs n q m).2.length ≤ m.length + n + 1 ∧ (zeR bs n q m).1 = q + (((zeR bs n q m).2.length : Nat) : Int) - ((m.length : Nat) : Int)
  | 0, q, m => by simp only [zeR, List.length_append, List.length_singleton]; omega
  | n + 1, q, m => by
    simp only [zeR]
    cases pickV bs q 3 == 0 with
    | true =>
      have := zeR_bd bs n (q + 1) (m ++ [0])
      rw [List.length_append, List.length_singleton] at this
      simp only [cond_true]
      omega
    | false => simp only [cond_false, List.length_append, List.length_singleton]; omega
theorem exR_bd (bs : List Int) (p : Int) : ∀ n, (exR bs p n).2.length ≤ 20 + n ∧ (exR bs p n).1 = p + (((exR bs p n).2.length : Nat) : Int)
  | 0 => by simp [exR]
  | n + 1 => by
    have h1 := exR_bd bs p n
    have h2 := zeR_bd bs (20 - (exR bs p n).2.length) (exR bs p n).1 (exR bs p n).2
    simp only [exR]
    omega
theorem deT_len (bs : List Int) : (deT bs).length ≤ 81 := by
  have h1 := exR_bd bs (dAxP bs) (drN bs)
  have h2 := drN_bd (bs := bs)
  have h3 := sp_len bs (exR bs (dAxP bs) (drN bs)).1 (exR bs (dAxP bs) (drN bs)).2 2
  unfold deT
  omega
/-- What is taken back from what was put apart. -/
def exF (mk : List Int) (p : Int) : Int := bif decide (0 ≤ p) then (exL mk).getD p.toNat 0 else -1
theorem ex_get {mk : List Int} {i : Nat} (hi : i < mk.length) : exF mk (i : Int) = bif mk.getD i 0 == 1 then ((exN mk i : Nat) : Int) else -1 := by
  unfold exF exL
  rw [decide_eq_true (by omega), cond_true, Int.toNat_natCast, tab_getD hi]
theorem mk01 {mk : List Int} (h : allB mk 0 1 = true) {i : Nat} (hi : i < mk.length) : mk.getD i 0 = 0 ∨ mk.getD i 0 = 1 := by
  have := allB_iff.1 h _ (mem_getD hi)
  omega
theorem ex_rp {mk : List Int} (h : allB mk 0 1 = true) : ∀ n, n ≤ mk.length → (rpC mk n).map (exF mk) = tab (exN mk n) fun i => (i : Int)
  | 0, _ => rfl
  | n + 1, hn => by
    simp only [rpC, exN]
    rw [List.map_append, ex_rp h n (by omega)]
    rcases mk01 h (show n < mk.length by omega) with e | e
    · rw [e]; simp
    · rw [e]
      have hx := ex_get (mk := mk) (i := n) (by omega)
      rw [e] at hx
      show _ ++ List.map (exF mk) [(n : Int)] = tab (exN mk n + 1) _
      rw [tab_succ, List.map_singleton, hx]
      rfl
theorem inv_rp {mk : List Int} (h : allB mk 0 1 = true) : ∀ n, n ≤ mk.length → ∀ x ∈ (rpC (tab mk.length fun i => 1 - mk.getD i 0) n).map (exF mk), x = -1
  | 0, _, x, hx => by simp [rpC] at hx
  | n + 1, hn, x, hx => by
    simp only [rpC] at hx
    rw [List.map_append, tab_getD (show n < mk.length by omega)] at hx
    rcases List.mem_append.1 hx with hx | hx
    · exact inv_rp h n (by omega) x hx
    · rcases mk01 h (show n < mk.length by omega) with e | e
      · rw [e] at hx
        have h2 := ex_get (mk := mk) (i := n) (by omega)
        rw [e] at h2
        have h3 : x = exF mk (n : Int) := by simpa using hx
        rw [h3, h2]
        rfl
      · rw [e] at hx
        simp at hx
theorem inv_len {mk : List Int} (h : allB mk 0 1 = true) : ∀ n, n ≤ mk.length → (rpC (tab mk.length fun i => 1 - mk.getD i 0) n).length ≤ n
  | 0, _ => by simp [rpC]
  | n + 1, hn => by
    have h1 := inv_len h n (by omega)
    rw [rpC_succ_len, tab_getD (show n < mk.length by omega)]
    rcases mk01 h (show n < mk.length by omega) with e | e <;> rw [e] <;> omega
theorem al_neg {sh da ls : List Int} {k : Nat} (h : ∀ x ∈ ls, x = -1) {i : Nat} (hi : i < (alA sh da (k : Int) ls).length) : (alA sh da (k : Int) ls).getD i 0 = 0 := by
  rw [alA_length] at hi
  rw [alA_nat]
  unfold alD
  rw [tab_getD hi]
  have hp : 0 < ls.length := by
    rcases Nat.eq_zero_or_pos ls.length with e | e
    · rw [e] at hi; simp at hi
    · exact e
  have := h _ (mem_getD (A := ls) (n := i / behN sh k % ls.length) (Nat.mod_lt _ hp))
  rw [this]
  rfl
theorem ex_facts {sh da : List Int} {k : Int} {mk : List Int} (h : exB sh da k mk = true) :
    rpB (exS sh da k mk) (exD sh da k mk) k mk = true ∧ rpS (exS sh da k mk) (exD sh da k mk) k mk = sh ∧ rpD (exS sh da k mk) (exD sh da k mk) k mk = da ∧
    (∃ j : Nat, k = j ∧ j < (exS sh da k mk).length ∧ (exS sh da k mk).getD j 0 = ((mk.length : Nat) : Int)) ∧
    rpB (exS sh da k mk) (exD sh da k mk) k (tab mk.length fun i => 1 - mk.getD i 0) = true ∧
    (∀ i, i < (rpD (exS sh da k mk) (exD sh da k mk) k (tab mk.length fun i => 1 - mk.getD i 0)).length → (rpD (exS sh da k mk) (exD sh da k mk) k (tab mk.length fun i => 1 - mk.getD i 0)).getD i 0 = 0) ∧ allB mk 0 1 = true := by
  obtain ⟨j, rfl, hj, hv, ax, hn, hal, hvs⟩ := exB_inv h
  have eS : exS sh da (j : Int) mk = alS sh j (exL mk) := by simp only [exS, h, cond_true]
  have eD : exD sh da (j : Int) mk = alA sh da j (exL mk) := by simp only [exD, h, cond_true]
  have hll := exL_length mk
  have hV := al_valid hv hj hvs
  have hj2 : j < (alS sh (j : Int) (exL mk)).length := by rw [alS_len]; exact hj
  have hax : axB (alS sh (j : Int) (exL mk)) (alA sh da (j : Int) (exL mk)) (j : Int) = true := axB_of hV hj2
  have hlen : lenN (alS sh (j : Int) (exL mk)) j = mk.length := by
    simp only [alS, Int.toNat_natCast]
    rw [len_set hj, hll, Int.toNat_natCast]
  have hal60 : allB mk 0 60 = true := allB_iff.2 fun v hv => by have := allB_iff.1 hal v hv; omega
  have twice : ∀ ls : List Int, alS (alS sh (j : Int) (exL mk)) (j : Int) ls = alS sh (j : Int) ls := fun ls => by simp [alS]
  have hbd := (rpC_bd hal60 mk.length (Nat.le_refl _)).2
  have hvS := (validA_inv hv).1
  have hrl : (rpL mk).length = lenN sh j := by
    have := congrArg List.length (ex_rp hal mk.length (Nat.le_refl _))
    rw [List.length_map, tab_length, hn] at this
    exact this
  have s1 := alS_same hvS hj hrl
  have b1 : rpB (alS sh (j : Int) (exL mk)) (alA sh da (j : Int) (exL mk)) (j : Int) mk = true := by
    simp only [rpB, hax, Int.toNat_natCast, hlen, decide_true, hal60, twice, s1, hvS, Bool.and_self]
  have hinv : allB (tab mk.length fun i => 1 - mk.getD i 0) 0 60 = true := allB_iff.2 fun v hv => by
    obtain ⟨i, hi, rfl⟩ := tab_mem hv
    rcases mk01 hal hi with e | e <;> rw [e] <;> omega
  have hil := inv_len hal mk.length (Nat.le_refl _)
  have hrl2 : rpL (tab mk.length fun i => 1 - mk.getD i 0) = rpC (tab mk.length fun i => 1 - mk.getD i 0) mk.length := by simp only [rpL, tab_length]
  have hvs2 : validS (alS (alS sh (j : Int) (exL mk)) (j : Int) (rpL (tab mk.length fun i => 1 - mk.getD i 0))) = true := by
    have := valid_less (l := (rpL (tab mk.length fun i => 1 - mk.getD i 0)).length) hvs hj2 (by rw [hlen, hrl2]; exact hil)
    simpa only [alS, Int.toNat_natCast] using this
  have b2 : rpB (alS sh (j : Int) (exL mk)) (alA sh da (j : Int) (exL mk)) (j : Int) (tab mk.length fun i => 1 - mk.getD i 0) = true := by
    simp only [rpB, hax, Int.toNat_natCast, hlen, tab_length, decide_true, hinv, hvs2, Bool.and_self]
  have hbd2 := (rpC_bd hinv mk.length (by rw [tab_length]; exact Nat.le_refl _)).2
  rw [eS, eD]
  refine ⟨b1, by simp only [rpS, b1, cond_true, twice, s1], ?_, ⟨j, rfl, hj2, ?_⟩, b2, ?_, hal⟩
  · simp only [rpD, b1, cond_true]
    rw [al_al hj fun x hx => by rw [hll]; exact (hbd x hx).2]
    refine al_id hv hj (by rw [List.length_map, hrl]) fun i hi => ?_
    have := ex_rp hal mk.length (Nat.le_refl _)
    rw [hn] at this
    show ((rpC mk mk.length).map (exF mk)).getD i 0 = _
    rw [this, tab_getD hi]
  · simp only [alS, Int.toNat_natCast, hll]
    simp [hj]
  · intro i hi
    have e : rpD (alS sh (j : Int) (exL mk)) (alA sh da (j : Int) (exL mk)) (j : Int) (tab mk.length fun i => 1 - mk.getD i 0) = alA sh da (j : Int) ((rpL (tab mk.length fun i => 1 - mk.getD i 0)).map (exF mk)) := by
      simp only [rpD, b2, cond_true]
      rw [al_al hj fun x hx => by rw [hll]; rw [hrl2] at hx; exact (hbd2 x hx).2]
      rfl
    rw [e] at hi ⊢
    refine al_neg (fun x hx => ?_) hi
    rw [hrl2] at hx
    exact inv_rp hal mk.length (Nat.le_refl _) x hx
end Go.Ab
namespace Go.Ab
/-- Sorted rows. -/
def upW (G : List Q → Int) (xs : List Int) : Bool := decide (xs.Pairwise fun x y => ltG G y x = false)
theorem up_get {G : List Q → Int} {xs : List Int} (h : upW G xs = true) {i j : Nat} (hij : i < j) (hj : j < xs.length) : decide (G [.i (xs.getD j 0), .i (xs.getD i 0)] < 0) = false :=
  pair_get (of_decide_eq_true h) hij hj
theorem halfW {x y : Nat} (h : x + y ≤ 1000) : IntKind.wrap .i64 (Int.fdiv (IntKind.wrap .u64 (IntKind.wrap .i64 ((x : Int) + (y : Int)))) (2 ^ min (1 : Int).toNat (IntKind.bits .u64))) = (((x + y) / 2 : Nat) : Int) := by
  have e : (2 : Int) ^ min (1 : Int).toNat (IntKind.bits .u64) = ((2 : Nat) : Int) := rfl
  rw [wS (x := (x : Int) + (y : Int)) (by omega) (by omega), show (x : Int) + (y : Int) = ((x + y : Nat) : Int) by omega, wU0 (by omega), e, fdivN, wN (by omega)]
theorem bub_up {G : List Q → Int} {xs : List Int} (h : upW G xs = true) (a : Nat) : ∀ k, a + k < xs.length → bubA (ltG G) a k xs = xs
  | 0, _ => rfl
  | k + 1, hk => by
    have : ltG G (xs.getD (a + k + 1) 0) (xs.getD (a + k) 0) = false := up_get h (by omega) (by omega)
    simp only [bubA, this, cond_false]
theorem isN_sorted {G : List Q → Int} {xs : List Int} (h : upW G xs = true) (a : Nat) : ∀ n, a + n ≤ xs.length → isN (ltG G) a n xs = xs
  | 0, _ => rfl
  | n + 1, hn => by
    simp only [isN]
    rw [isN_sorted h a n (by omega), bub_up h a n (by omega)]
theorem isW_up {G : List Q → Int} {xs : List Int} (h : upW G xs = true) {a n : Nat} (hn : a + n ≤ xs.length) : isW G a n xs = xs := isN_sorted h a n hn
end Go.Ab
namespace Go.Ab
/-- What counts is sorted. -/
theorem upN_get {n : Nat} {x : Int} (h : x ∈ upN n) : (upN n).getD x.toNat 0 = x := by
  have := upN_mem.1 h
  rw [upN, tab_getD (by omega)]
  omega
theorem up_upN (n : Nat) : upW (q2v (gdC (upN n))) (upN n) = true := by
  refine decide_eq_true ((upN_up n).imp_of_mem fun {a b} ha hb hab => ?_)
  rw [ltG_gd]
  unfold ltD
  rw [upN_get ha, upN_get hb]
  exact decide_eq_false (by omega)
theorem gr_upN (n : Nat) : grN (upN n) n = upN n := by
  have h1 := isN_all (upN n) n
  rw [← h1, ← ltG_gd]
  exact isW_up (up_upN n) (by rw [upN_length]; omega)
theorem upN_vec {n : Nat} (h : n ≤ 60) : vecOk (upN n) = true := vec_part (by rw [upN_length]; exact h) fun x hx => by
  have := upN_mem.1 hx
  omega
end Go.Ab
