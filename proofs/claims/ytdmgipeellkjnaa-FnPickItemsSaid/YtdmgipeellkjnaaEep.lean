import Derived.Test.YtdmgipeellkjnaaEep1
open Go Go.Ab
set_option maxRecDepth 100000
set_option linter.unusedVariables false
set_option linter.unusedSimpArgs false
namespace Go.Ab
def sqB (sh da : List Int) : Bool := validA sh da && decide (sh.length = 2) && decide (sh.getD 0 0 = sh.getD 1 0) && decide (sh.getD 0 0 ≤ 4) && allB da (-100) 100
def idN (n : Nat) : List Int := tab (n * n) fun i => tInt (decide (i / n = i % n))
def idOk (n : Int) : Bool := decide (0 ≤ n) && decide (n ≤ 4)
def idS (n : Int) : List Int := bif idOk n then [n, n] else []
def idD (n : Int) : List Int := bif idOk n then idN n.toNat else []
def sumF : List Int → Int → Int
  | [], a => a
  | x :: xs, a => sumF xs (IntKind.wrap .i64 (a + x))
def sumW (xs : List Int) : Int := sumF xs 0
def traV (sh da : List Int) : Int := bif sqB sh da then sumW (dgD sh da) else 0
def powL (sh da : List Int) : Nat → List Int
  | 0 => idN (sh.getD 0 0).toNat
  | k + 1 => inN 1 3 sh (powL sh da k) sh da
def poOk (sh da : List Int) (n : Int) : Bool := sqB sh da && (decide (0 ≤ n) && decide (n ≤ 5))
def pwS (sh da : List Int) (n : Int) : List Int := bif poOk sh da n then sh else []
def ppD (sh da : List Int) (n : Int) : List Int := bif poOk sh da n then powL sh da n.toNat else []
def wiK (sh da : List Int) (n : Int) : Bool := vcB sh da && (decide (1 ≤ n) && decide (n ≤ ((da.length + 1 : Nat) : Int)))
def wiN (da : List Int) (n : Nat) : List Int := tab ((da.length + 1 - n) * n) fun i => da.getD (i / n + i % n) 0
def wiSh (da : List Int) (n : Int) : List Int := [((da.length + 1 - n.toNat : Nat) : Int), n]
def wiB (sh da : List Int) (n : Int) : Bool := wiK sh da n && validS (wiSh da n)
def wiS (sh da : List Int) (n : Int) : List Int := bif wiB sh da n then wiSh da n else []
def wiD (sh da : List Int) (n : Int) : List Int := bif wiB sh da n then wiN da n.toNat else []
def wpL (da : List Int) (n i : Nat) : List Int := (da.drop i).take n
def msN (da : List Int) (n : Nat) : List Int := tab (da.length + 1 - n) fun i => limV (sumW (wpL da n i))
def msS (sh da : List Int) (n : Int) : List Int := bif wiK sh da n then [((da.length + 1 - n.toNat : Nat) : Int)] else []
def msD (sh da : List Int) (n : Int) : List Int := bif wiK sh da n then msN da n.toNat else []
def nbB (op : Int) (sh da : List Int) : Bool := opOk op && vcB sh da && decide (0 < da.length)
def nbN (op : Int) (da : List Int) : List Int := tab (da.length - 1) fun i => operF op (da.getD i 0) (da.getD (i + 1) 0)
def nbS (op : Int) (sh da : List Int) : List Int := bif nbB op sh da then [((da.length - 1 : Nat) : Int)] else []
def nbD (op : Int) (sh da : List Int) : List Int := bif nbB op sh da then nbN op da else []

theorem sqB_inv {sh da : List Int} (h : sqB sh da = true) : ∃ n : Nat, n ≤ 4 ∧ sh = [(n : Int), (n : Int)] ∧ da.length = n * n ∧ validA sh da = true ∧ allB da (-100) 100 = true := by
  simp only [sqB, Bool.and_eq_true, decide_eq_true_eq] at h
  obtain ⟨⟨⟨⟨h1, h2⟩, h3⟩, h4⟩, h5⟩ := h
  obtain ⟨a1, a2, _⟩ := validA_inv h1
  match sh, h2 with
  | [a, b], _ =>
    have e : a = b := h3
    subst e
    have h4' : a ≤ 4 := h4
    rcases validS_cases a1 with h | ⟨x, h, _⟩ | ⟨x, y, h, b0, b1, c0, c1, hm⟩ | ⟨x, y, z, h, _⟩
    · cases h
    · cases h
    · cases h
      refine ⟨a.toNat, by omega, by rw [Int.toNat_of_nonneg b0], ?_, h1, h5⟩
      have hm := mul60 b0 b1 b0 b1
      simp only [volW, volFrom, Int.one_mul, wS (x := a) (by omega) (by omega), wS (x := a * a) (by omega) (by omega)] at a2
      have : ((a.toNat * a.toNat : Nat) : Int) = a * a := by rw [Int.natCast_mul, Int.toNat_of_nonneg b0]
      omega
    · cases h
theorem sq4 {n : Nat} (h : n ≤ 4) : n * n ≤ 16 := Nat.le_trans (Nat.mul_le_mul h h) (by omega)
theorem sqB_of {n : Nat} {da : List Int} (hn : n ≤ 4) (hl : da.length = n * n) (h : allB da (-100) 100 = true) (hv : validA [(n : Int), (n : Int)] da = true) : sqB [(n : Int), (n : Int)] da = true := by
  simp only [sqB, hv, h]
  simp
  omega
theorem idN_length (n : Nat) : (idN n).length = n * n := tab_length _ _
theorem idN_mem {n : Nat} {x : Int} (h : x ∈ idN n) : x = 0 ∨ x = 1 := by
  simp only [idN, tab, List.mem_map] at h
  obtain ⟨i, _, rfl⟩ := h
  cases decide (i / n = i % n) <;> simp [tInt]
theorem vol_sq {n : Nat} (h : n ≤ 4) : validS [(n : Int), (n : Int)] = true ∧ volW [(n : Int), (n : Int)] = ((n * n : Nat) : Int) := by
  have : ∀ i : Fin 5, validS [(i.1 : Int), (i.1 : Int)] = true ∧ volW [(i.1 : Int), (i.1 : Int)] = ((i.1 * i.1 : Nat) : Int) := by decide +kernel
  exact this ⟨n, by omega⟩
theorem valid_sq {n : Nat} {da : List Int} (h : n ≤ 4) (hl : da.length = n * n) (ha : ∀ x ∈ da, -1000000 ≤ x ∧ x ≤ 1000000) : validA [(n : Int), (n : Int)] da = true := by
  obtain ⟨h1, h2⟩ := vol_sq h
  unfold validA
  rw [h1, h2, hl]
  simp [allB]
  intro x hx
  exact ha x hx
theorem id_valid {n : Nat} (h : n ≤ 4) : validA [(n : Int), (n : Int)] (idN n) = true := valid_sq h (idN_length n) fun x hx => by
  rcases idN_mem hx with rfl | rfl <;> omega
theorem idOk_of {n : Nat} (h : n ≤ 4) : idOk (n : Int) = true := by simp [idOk]; omega
theorem idOk_inv {n : Int} (h : idOk n = true) : ∃ k : Nat, n = k ∧ k ≤ 4 := by
  simp [idOk] at h
  exact ⟨n.toNat, by omega, by omega⟩
theorem idSD {n : Nat} (h : n ≤ 4) : idS (n : Int) = [(n : Int), (n : Int)] ∧ idD (n : Int) = idN n := by
  simp only [idS, idD, idOk_of h, cond_true, Int.toNat_natCast, and_self]
theorem id_len (n : Int) : (idS n).length ≤ 3 ∧ (idD n).length ≤ 60 := by
  unfold idS idD
  cases h : idOk n with
  | false => simp
  | true =>
    obtain ⟨k, rfl, hk⟩ := idOk_inv h
    have := sq4 hk
    simp [idN_length]
    omega
theorem sumF_app (xs ys : List Int) : ∀ a, sumF (xs ++ ys) a = sumF ys (sumF xs a) := by
  induction xs with
  | nil => intro a; rfl
  | cons x xs ih => intro a; simp only [List.cons_append, sumF]; exact ih _
theorem sumF_bd : ∀ {xs : List Int} {a B : Int}, (∀ x ∈ xs, -B ≤ x ∧ x ≤ B) → 0 ≤ B → B ≤ 1000000 → xs.length ≤ 100000 → -1000000000000 ≤ a → a ≤ 1000000000000 → sumF xs a = a + xs.sum
  | [], a, B, _, _, _, _, _, _ => by simp [sumF]
  | x :: xs, a, B, h, h0, h1, h2, h3, h4 => by
    have hx := h x (by simp)
    simp only [List.length_cons] at h2
    simp only [sumF, List.sum_cons]
    rw [wS (by omega) (by omega)]
    have key : ∀ (ys : List Int) (b : Int), (∀ y ∈ ys, -1000000 ≤ y ∧ y ≤ 1000000) → ys.length ≤ 100000 → -1000001000000 - 1000000 * (100000 - (ys.length : Int)) ≤ b → b ≤ 1000001000000 + 1000000 * (100000 - (ys.length : Int)) → sumF ys b = b + ys.sum := by
      intro ys
      induction ys with
      | nil => intro b _ _ _ _; simp [sumF]
      | cons y ys ih =>
        intro b hy hl hb1 hb2
        have := hy y (by simp)
        simp only [List.length_cons] at hl hb1 hb2
        simp only [sumF, List.sum_cons]
        rw [wS (by omega) (by omega), ih (b + y) (fun z hz => hy z (by simp [hz])) (by omega) (by omega) (by omega)]
        omega
    rw [key xs (a + x) (fun y hy => by have := h y (by simp [hy]); omega) (by omega) (by omega) (by omega)]
    omega
theorem sumW_eq {xs : List Int} (h : ∀ x ∈ xs, -1000000 ≤ x ∧ x ≤ 1000000) (hl : xs.length ≤ 100000) : sumW xs = xs.sum := by
  unfold sumW
  rw [sumF_bd h (by omega) (by omega) hl (by omega) (by omega)]
  omega
theorem big_iff {n : Int} (h1 : -1000000 ≤ n) (h2 : n ≤ 1000000) : decide (absV n > 100) = !(decide (-100 ≤ n) && decide (n ≤ 100)) := by
  have e : absV n = (if 0 - n > n then 0 - n else n) := by
    unfold absV maxI
    rw [wS (by omega) (by omega)]
  rw [e]
  by_cases h : 0 - n > n
  · rw [if_pos h]
    by_cases h3 : -100 ≤ n
    · rw [decide_eq_true h3, decide_eq_true (by omega : n ≤ 100), decide_eq_false (by omega)]; rfl
    · rw [decide_eq_false h3, decide_eq_true (by omega)]; rfl
  · rw [if_neg h]
    by_cases h3 : n ≤ 100
    · rw [decide_eq_true h3, decide_eq_true (by omega : -100 ≤ n), decide_eq_false (by omega)]; rfl
    · rw [decide_eq_false h3, decide_eq_true (by omega : n > 100)]; simp
theorem wiK_inv {sh da : List Int} {n : Int} (h : wiK sh da n = true) : ∃ k : Nat, n = k ∧ 1 ≤ k ∧ k ≤ da.length + 1 ∧ vcB sh da = true := by
  simp only [wiK, Bool.and_eq_true, decide_eq_true_eq] at h
  exact ⟨n.toNat, by omega, by omega, by omega, h.1⟩
theorem wpL_length {da : List Int} {n i : Nat} (h : i + n ≤ da.length) : (wpL da n i).length = n := by
  simp [wpL]; omega
theorem wpL_tab {da : List Int} {n i : Nat} (h : i + n ≤ da.length) : wpL da n i = tab n fun t => da.getD (i + t) 0 := by
  refine List.ext_getElem (by rw [wpL_length h, tab_length]) fun t h1 h2 => ?_
  rw [tab_length] at h2
  simp [wpL, tab]
  rw [List.getElem?_eq_getElem (by omega)]
  rfl
theorem tab_app {m n : Nat} {f : Nat → Int} : tab (m + n) f = tab m f ++ tab n fun t => f (m + t) := by
  induction n with
  | zero => simp [tab]
  | succ n ih => rw [← Nat.add_assoc, tab_succ, ih, tab_succ, List.append_assoc]
theorem wi_push {da : List Int} {n j : Nat} (hn : 1 ≤ n) (h : j + n ≤ da.length) : (tab (j * n) fun i => da.getD (i / n + i % n) 0) ++ wpL da n j = tab ((j + 1) * n) fun i => da.getD (i / n + i % n) 0 := by
  rw [Nat.succ_mul, tab_app, wpL_tab h]
  congr 1
  refine tab_congr fun t ht => ?_
  rw [(divmod ht).1, (divmod ht).2]
theorem wi_bd {L n : Nat} (h1 : n ≤ L + 1) (hL : L ≤ 60) : (L + 1 - n) * n ≤ 3721 := Nat.le_trans (Nat.mul_le_mul (by omega : _ ≤ 61) (by omega : _ ≤ 61)) (by omega)
theorem wiN_length (da : List Int) (n : Nat) : (wiN da n).length = (da.length + 1 - n) * n := tab_length _ _
theorem msN_length (da : List Int) (n : Nat) : (msN da n).length = da.length + 1 - n := tab_length _ _
theorem nbN_length (op : Int) (da : List Int) : (nbN op da).length = da.length - 1 := tab_length _ _
theorem wi_vol {da : List Int} {n : Nat} (hs : validS (wiSh da (n : Int)) = true) : volW (wiSh da (n : Int)) = (((da.length + 1 - n) * n : Nat) : Int) ∧ (da.length + 1 - n) * n ≤ 60 := by
  have hb := vol_bd hs
  unfold wiSh at hs hb ⊢
  rw [Int.toNat_natCast] at hs hb ⊢
  obtain ⟨_, h2, _⟩ := validS_inv hs
  simp only [allB_cons, allB_nil, Bool.and_true, Bool.and_eq_true, decide_eq_true_eq] at h2
  have hm := mul60 h2.1.1 h2.1.2 h2.2.1 h2.2.2
  have e : volW [((da.length + 1 - n : Nat) : Int), (n : Int)] = (((da.length + 1 - n) * n : Nat) : Int) := by
    simp only [volW, volFrom, Int.one_mul]
    rw [wS (x := ((da.length + 1 - n : Nat) : Int)) (by omega) (by omega), wS (by omega) (by omega), Int.natCast_mul]
  rw [e] at hb ⊢
  exact ⟨rfl, by omega⟩
theorem wi_valid {sh da : List Int} {n : Int} (h : wiB sh da n = true) : validA (wiSh da n) (wiN da n.toNat) = true := by
  simp only [wiB, Bool.and_eq_true] at h
  obtain ⟨k, rfl, k1, k2, hv⟩ := wiK_inv h.1
  obtain ⟨_, _, hl, ha⟩ := vcB_inv hv
  obtain ⟨e1, e2⟩ := wi_vol h.2
  unfold validA
  rw [h.2, e1, Int.toNat_natCast, wiN_length]
  simp only [beq_self_eq_true, Bool.and_self, Bool.true_and]
  refine allB_iff.2 fun x hx => ?_
  simp only [wiN, tab, List.mem_map] at hx
  obtain ⟨i, _, rfl⟩ := hx
  exact getD_all (P := fun x => -1000000 ≤ x ∧ x ≤ 1000000) (by omega) (allB_iff.1 ha) _
theorem wi_len (sh da : List Int) (n : Int) : (wiS sh da n).length ≤ 3 ∧ (wiD sh da n).length ≤ 60 := by
  unfold wiS wiD
  cases h : wiB sh da n with
  | false => simp
  | true =>
    have := validA_len (wi_valid h)
    simpa using this
theorem ms_vec {sh da : List Int} {n : Int} (h : wiK sh da n = true) : vecOk (msN da n.toNat) = true := by
  obtain ⟨k, rfl, k1, k2, hv⟩ := wiK_inv h
  obtain ⟨_, _, hl, ha⟩ := vcB_inv hv
  refine vec_part (by rw [Int.toNat_natCast, msN_length]; omega) fun x hx => ?_
  simp only [msN, tab, List.mem_map] at hx
  obtain ⟨i, _, rfl⟩ := hx
  exact lim_bd _
theorem ms_len (sh da : List Int) (n : Int) : (msS sh da n).length ≤ 1 ∧ (msD sh da n).length ≤ 60 := by
  unfold msS msD
  cases h : wiK sh da n with
  | false => simp
  | true =>
    have := (vecOk_inv (ms_vec h)).1
    simpa using this
theorem nb_vec {op : Int} {sh da : List Int} (h : nbB op sh da = true) : vecOk (nbN op da) = true := by
  simp only [nbB, Bool.and_eq_true, decide_eq_true_eq] at h
  obtain ⟨_, _, hl, ha⟩ := vcB_inv h.1.2
  refine vec_part (by rw [nbN_length]; omega) fun x hx => ?_
  simp only [nbN, tab, List.mem_map] at hx
  obtain ⟨i, _, rfl⟩ := hx
  have hg : ∀ i, numB (da.getD i 0) = true := fun i => numB_of (getD_all (P := fun x => -1000000 ≤ x ∧ x ≤ 1000000) (by omega) (allB_iff.1 ha) i)
  exact operF_bd h.1.1 (hg _) (hg _)
theorem nb_len (op : Int) (sh da : List Int) : (nbS op sh da).length ≤ 1 ∧ (nbD op sh da).length ≤ 60 := by
  unfold nbS nbD
  cases h : nbB op sh da with
  | false => simp
  | true =>
    have := (vecOk_inv (nb_vec h)).1
    simpa using this
end Go.Ab
namespace Go.Ab
theorem gEd {xs : List Int} {j : Nat} (h : j < xs.length) : xs[j] = xs.getD j 0 := by simp [h]
theorem dg_sq {n : Nat} {sh da : List Int} (hn : n ≤ 4) (hl : da.length = n * n) (hv : validA sh da = true) (hsh : sh = [(n : Int), (n : Int)]) : dgD sh da = tab n fun i => da.getD (i * (n + 1)) 0 := by
  subst hsh
  have hb : dgB [(n : Int), (n : Int)] da = true := by simp [dgB, hv]
  simp only [dgD, hb, cond_true, dgN]
  have e1 : minL [(n : Int), (n : Int)] = (n : Int) := by simp [minL, minI]
  have e2 : stpN [(n : Int), (n : Int)] [(n : Int), (n : Int)].length = n + 1 := by
    have : ∀ i : Fin 5, stpN [(i.1 : Int), (i.1 : Int)] 2 = i.1 + 1 := by decide +kernel
    exact this ⟨n, by omega⟩
  rw [e1, e2]
  rfl
end Go.Ab
namespace Go.Ab
theorem inB_sq {n : Nat} {x da : List Int} (hn : n ≤ 4) (hx : validA [(n : Int), (n : Int)] x = true) (hd : validA [(n : Int), (n : Int)] da = true) : inB 1 3 [(n : Int), (n : Int)] x [(n : Int), (n : Int)] da = true := by
  obtain ⟨v1, v2⟩ := vol_sq hn
  have e : inSh [(n : Int), (n : Int)] [(n : Int), (n : Int)] = [(n : Int), (n : Int)] := rfl
  have a1 : axB [(n : Int), (n : Int)] x (inK [(n : Int), (n : Int)]) = true := by simp [axB, hx, inK, axOk]
  have a2 : axB [(n : Int), (n : Int)] da 0 = true := by simp [axB, hd, axOk]
  simp only [inB, e, v1, a1, a2]
  simp [opOk, lenN]
theorem pow_facts {k : Nat} {sh da : List Int} (hk : k ≤ 4) (hl : da.length = k * k) (hv : validA sh da = true) (hsh : sh = [(k : Int), (k : Int)]) (j : Nat) :
    (validA sh (powL sh da j) = true ∧ sh.length = 2 ∧ da.length ≤ 60 ∧ (powL sh da j).length ≤ 60) ∧ inS 1 3 sh (powL sh da j) sh da = sh ∧ inD 1 3 sh (powL sh da j) sh da = powL sh da (j + 1) := by
  subst hsh
  have h4 := sq4 hk
  have hvp : ∀ j, validA [(k : Int), (k : Int)] (powL [(k : Int), (k : Int)] da j) = true := by
    intro j
    induction j with
    | zero => exact id_valid hk
    | succ j ih => exact in_valid (inB_sq hk ih hv)
  have hb := inB_sq hk (hvp j) hv
  refine ⟨⟨hvp j, rfl, by omega, (validA_len (hvp j)).2⟩, ?_, ?_⟩
  · simp only [inS, hb, cond_true]; rfl
  · simp only [inD, hb, cond_true]; rfl
end Go.Ab
namespace Go.Ab
/-- Slices of integers, as data. -/
def dL (xss : List (List Int)) : List D := xss.map (D.ints .i64)
theorem dL_length (xss : List (List Int)) : (dL xss).length = xss.length := by simp [dL]
theorem getI_dL (xss : List (List Int)) (i : Nat) : getI .i64 (dL xss) i = xss[i]? := by
  unfold getI dL
  rw [List.getElem?_map]
  cases xss[i]? <;> simp [seeI]
def partX (xss : List (List Int)) (j : Nat) : List D := dL (xss.take j ++ List.replicate (xss.length - j) [])
theorem partX_length {xss : List (List Int)} {j : Nat} (h : j ≤ xss.length) : (partX xss j).length = xss.length := by
  simp [partX, dL]; omega
theorem partX_zero (xss : List (List Int)) : partX xss 0 = List.replicate xss.length (D.ints .i64 []) := by
  simp [partX, dL]
theorem partX_all (xss : List (List Int)) : partX xss xss.length = dL xss := by
  simp [partX]
theorem partX_set {xss : List (List Int)} {j : Nat} (h : j < xss.length) : (partX xss j).set j (.ints .i64 xss[j]) = partX xss (j + 1) := by
  have e : xss.length - j = (xss.length - (j + 1)) + 1 := by omega
  have hl : (xss.take j).length = j := by simp; omega
  unfold partX dL
  rw [e, List.replicate_succ, List.map_append, List.map_cons]
  have e1 : ¬ j < ((xss.take j).map (D.ints .i64)).length := by simp; omega
  have e2 : j - ((xss.take j).map (D.ints .i64)).length = 0 := by simp; omega
  rw [List.set_append, if_neg e1, e2, List.set_cons_zero, List.take_add_one, List.getElem?_eq_getElem h, List.map_append, List.map_append, List.append_assoc]
  rfl
def wiL (da : List Int) (n : Nat) : List (List Int) := (List.range (da.length + 1 - n)).map (wpL da n)
theorem wiL_length (da : List Int) (n : Nat) : (wiL da n).length = da.length + 1 - n := by simp [wiL]
theorem wiL_get {da : List Int} {n j : Nat} (h : j < (wiL da n).length) : (wiL da n)[j] = wpL da n j := by simp [wiL]
theorem wiL_get' {da : List Int} {n j : Nat} (h : j < da.length + 1 - n) : (wiL da n)[j]? = some (wpL da n j) := by
  rw [List.getElem?_eq_getElem (by rw [wiL_length]; exact h), wiL_get]
theorem wiX_set {da : List Int} {n j : Nat} (h : j < da.length + 1 - n) : (partX (wiL da n) j).set j (.ints .i64 (wpL da n j)) = partX (wiL da n) (j + 1) := by
  have h' : j < (wiL da n).length := by rw [wiL_length]; exact h
  rw [← partX_set h', wiL_get]
/-- One more than the number of windows, as it is computed. -/
theorem wiC {L k : Nat} (h1 : k ≤ L + 1) (hL : L ≤ 60) : IntKind.wrap .i64 (IntKind.wrap .i64 (((L : Nat) : Int) + 1) - (k : Int)) = ((L + 1 - k : Nat) : Int) := by
  rw [w1 (by omega), wS (by omega) (by omega)]; omega
end Go.Ab
namespace Go.Ab
theorem poOk_inv {sh da : List Int} {n : Int} (h : poOk sh da n = true) : ∃ (p k : Nat), n = p ∧ p ≤ 5 ∧ k ≤ 4 ∧ sh = [(k : Int), (k : Int)] ∧ da.length = k * k ∧ validA sh da = true ∧ sqB sh da = true ∧ validA sh (powL sh da p) = true := by
  simp only [poOk, Bool.and_eq_true, decide_eq_true_eq] at h
  obtain ⟨k, hk, hsh, hl, hv, ha⟩ := sqB_inv h.1
  exact ⟨n.toNat, k, by omega, by omega, hk, hsh, hl, hv, h.1, (pow_facts hk hl hv hsh _).1.1⟩
theorem pp_len (sh da : List Int) (n : Int) : (pwS sh da n).length ≤ 3 ∧ (ppD sh da n).length ≤ 60 := by
  unfold pwS ppD
  cases h : poOk sh da n with
  | false => simp
  | true =>
    obtain ⟨p, k, rfl, _, _, _, _, _, _, hv⟩ := poOk_inv h
    simpa using validA_len hv
end Go.Ab
namespace Go.Ab
def sqL : List Int := [0, 1, 2, -1, 3, 100, -100, 5]
def sqnL : List Int := [2, 3, 1, 4, 0]
def powL5 : List Int := [2, 1, 0, 3, 5, 6, -1]
def asN (bs : List Int) (p : Int) : Nat := (oneV bs p sqnL).toNat
def asQ (bs : List Int) (p : Int) : Int := p + 1 + ((asN bs p * asN bs p : Nat) : Int)
def as0 (bs : List Int) (p : Int) : List Int := tab (asN bs p * asN bs p) fun i => oneV bs (p + 1 + ((i : Nat) : Int)) sqL
def asC (bs : List Int) (p : Int) : Bool := pickV bs (asQ bs p) 16 == 0
def asS (bs : List Int) (p : Int) : List Int := bif asC bs p then aArS bs (asQ bs p + 1) else [((asN bs p : Nat) : Int), ((asN bs p : Nat) : Int)]
def asD (bs : List Int) (p : Int) : List Int := bif asC bs p then aArD bs (asQ bs p + 1) else bif pickV bs (asQ bs p) 16 == 1 then (as0 bs p).set 0 101 else as0 bs p
def asP (bs : List Int) (p : Int) : Int := bif asC bs p then aArP bs (asQ bs p + 1) else asQ bs p + 1
def dId (bs : List Int) : Int := pickV bs 0 7 - 1
def dWn (bs : List Int) : Int := pickV bs (avP bs 0) (((avD bs 0).length : Nat) + 4 : Int) - 1
theorem asN_bd {bs : List Int} {p : Int} (h : rdOk bs p = true) : asN bs p ≤ 4 ∧ oneV bs p sqnL = ((asN bs p : Nat) : Int) := by
  have hm : oneV bs p sqnL ∈ sqnL := oneV_mem h (by simp [sqnL]) (by simp [sqnL])
  unfold asN
  simp only [sqnL, List.mem_cons, List.not_mem_nil, or_false] at hm ⊢
  omega
theorem as_bd {bs : List Int} {p : Int} (h : rdOk bs p = true) (hp : p ≤ 900000) : (asS bs p).length ≤ 1000 ∧ (asD bs p).length ≤ 1000 ∧ p + 1 ≤ asP bs p ∧ asP bs p ≤ p + 1000 := by
  obtain ⟨n1, n2⟩ := asN_bd h
  have h4 := sq4 n1
  have hq : asQ bs p = p + 1 + ((asN bs p * asN bs p : Nat) : Int) := rfl
  have r1 := rd_le (q := asQ bs p + 1) h (by omega) (by have := (rdOk_inv h).2.1; omega)
  obtain ⟨a1, a2, a3, a4⟩ := aAr_bd r1 (by omega)
  unfold asS asD asP
  cases asC bs p with
  | true => simp only [cond_true]; omega
  | false =>
    have hl : (as0 bs p).length = asN bs p * asN bs p := tab_length _ _
    simp only [cond_false]
    refine ⟨by simp, ?_, by omega, by omega⟩
    cases pickV bs (asQ bs p) 16 == 1 with
    | true => simp only [cond_true, List.length_set]; omega
    | false => simp only [cond_false]; omega
theorem dId_bd {bs : List Int} (h : rdOk bs 0 = true) : -1 ≤ dId bs ∧ dId bs ≤ 5 := by
  have := pick_bd (n := 7) h (by omega)
  unfold dId
  omega
end Go.Ab
namespace Go.Ab
theorem mulr_pos {n a k : Nat} (h : n < a * k) : 0 < k := by
  rcases Nat.eq_zero_or_pos k with h0 | h0
  · subst h0; simp at h
  · exact h0
theorem vS_two {a b : Nat} (ha : a ≤ 60) (hb : b ≤ 60) (h : a * b ≤ 60) : validS [(a : Int), (b : Int)] = true ∧ volW [(a : Int), (b : Int)] = ((a * b : Nat) : Int) := by
  have hm : (a : Int) * (b : Int) = ((a * b : Nat) : Int) := (Int.natCast_mul a b).symm
  have e : volW [(a : Int), (b : Int)] = ((a * b : Nat) : Int) := by
    simp only [volW, volFrom, Int.one_mul]
    rw [wS (x := (a : Int)) (by omega) (by omega), hm, wS (by omega) (by omega)]
  refine ⟨?_, e⟩
  unfold validS
  rw [e]
  simp [allB]
  omega
theorem op1_zero {x : Int} (h : numB x = true) : operF 1 x 0 = x ∧ operF 1 0 x = x := by
  have := numB_inv h
  have e1 : operF 1 x 0 = limV (IntKind.wrap .i64 (x + 0)) := rfl
  have e2 : operF 1 0 x = limV (IntKind.wrap .i64 (0 + x)) := rfl
  rw [e1, e2, Int.add_zero, Int.zero_add, wS (by omega) (by omega)]
  have : limV x = x := by unfold limV minI maxI; split <;> split <;> omega
  exact ⟨this, this⟩
theorem lim_self {x : Int} (h1 : -1000000 ≤ x) (h2 : x ≤ 1000000) : limV x = x := by unfold limV minI maxI; split <;> split <;> omega
theorem red_at : ∀ {xs : List Int} {i : Nat}, i < xs.length → (∀ j, j < xs.length → j ≠ i → xs.getD j 0 = 0) → numB (xs.getD i 0) = true → redF 1 xs = xs.getD i 0
  | [], i, h, _, _ => by simp at h
  | [x], i, h, _, _ => by
    have : i = 0 := by simpa using h
    subst this
    rfl
  | x :: y :: ys, i, h, h0, hv => by
    rw [redF_cons (by simp)]
    cases i with
    | zero =>
      have hz : redF 1 (y :: ys) = 0 := by
        have : y :: ys = List.replicate (y :: ys).length 0 := by
          refine List.eq_replicate_iff.2 ⟨rfl, fun b hb => ?_⟩
          obtain ⟨j, hj, rfl⟩ := List.getElem_of_mem hb
          have := h0 (j + 1) (by simpa using hj) (by omega)
          rw [List.getD_cons_succ] at this
          rw [gEd hj]
          exact this
        rw [this, red_no1]
      rw [hz]
      exact (op1_zero hv).1
    | succ i =>
      have hx : x = 0 := h0 0 (by simp) (by omega)
      have hv' : numB ((y :: ys).getD i 0) = true := hv
      rw [red_at (xs := y :: ys) (i := i) (by simpa using h) (fun j hj hne => h0 (j + 1) (by simpa using hj) (by omega)) hv', hx]
      exact (op1_zero hv').2
theorem op3_t {x : Int} (h : numB x = true) (b : Bool) : operF 3 x (tInt b) = (bif b then x else 0) ∧ operF 3 (tInt b) x = (bif b then x else 0) := by
  have := numB_inv h
  have e1 : operF 3 x (tInt b) = limV (IntKind.wrap .i64 (x * tInt b)) := rfl
  have e2 : operF 3 (tInt b) x = limV (IntKind.wrap .i64 (tInt b * x)) := rfl
  rw [e1, e2]
  cases b with
  | true => simp only [tInt, cond_true, Int.mul_one, Int.one_mul]; rw [wS (by omega) (by omega), lim_self (by omega) (by omega)]; exact ⟨rfl, rfl⟩
  | false => simp only [tInt, cond_false, Int.mul_zero, Int.zero_mul]; exact ⟨rfl, rfl⟩
theorem id_get {K t j : Nat} (ht : t < K) (hj : j < K) : (idN K).getD (t * K + j) 0 = tInt (decide (t = j)) := by
  obtain ⟨n0, n1, n2⟩ := enc2 (B := K) (M := K) ht hj
  rw [idN, tab_getD n0, n1, n2]
theorem da_num {sh da : List Int} (hv : validA sh da = true) (i : Nat) : numB (da.getD i 0) = true := numB_of (getD_all (P := fun x => -1000000 ≤ x ∧ x ≤ 1000000) (by omega) (allB_iff.1 (validA_inv hv).2.2) i)
theorem tab_ext' {xs : List Int} {n : Nat} {f : Nat → Int} (hl : xs.length = n) (h : ∀ i, i < n → f i = xs.getD i 0) : tab n f = xs := by
  subst hl
  rw [← tab_self xs]
  rw [tab_length]
  exact tab_congr h
/-- A product with the identity on the right changes nothing. -/
theorem id_right {sa da : List Int} {K : Nat} (hv : validA sa da = true) (hX : ∀ n, inX sa da [(K : Int), (K : Int)] n = tab K fun t => da.getD (n / K * K + t) 0)
    (hp : prodN (inSh sa [(K : Int), (K : Int)]) = da.length) (hK : ∀ n, n < da.length → 0 < K) : inN 1 3 sa da [(K : Int), (K : Int)] (idN K) = da := by
  unfold inN
  rw [hp]
  refine tab_ext' rfl fun n hn => ?_
  have h0 := hK n hn
  have hm := Nat.mod_lt n h0
  have b0 : behN [(K : Int), (K : Int)] 0 = K := by simp [behN, prodN]
  have l0 : lenN [(K : Int), (K : Int)] 0 = K := by simp [lenN]
  have ey : inY [(K : Int), (K : Int)] (idN K) n = tab K fun t => (idN K).getD (t * K + n % K) 0 := by
    unfold inY
    rw [b0]
    show lnK [(K : Int), (K : Int)] (idN K) ((0 : Nat) : Int) 0 (n % K) = _
    simp only [lnK, Int.toNat_natCast, lnD, l0, b0, Nat.zero_mul, Nat.zero_add]
  have el : inL (q2v (operF 3)) sa da [(K : Int), (K : Int)] (idN K) n = tab K fun t => bif decide (t = n % K) then da.getD (n / K * K + t) 0 else 0 := by
    unfold inL
    rw [pwD_q2, hX, ey, tab_length]
    refine tab_congr fun t ht => ?_
    rw [tab_getD ht, tab_getD ht, id_get ht hm]
    exact (op3_t (da_num hv _) _).1
  have e : n / K * K + n % K = n := by rw [Nat.mul_comm]; exact Nat.div_add_mod n K
  have hg : (tab K fun t => bif decide (t = n % K) then da.getD (n / K * K + t) 0 else 0).getD (n % K) 0 = da.getD n 0 := by
    rw [tab_getD hm]
    simp [e]
  rw [el, red_at (i := n % K) (by rw [tab_length]; exact hm) (fun j hj hne => by rw [tab_length] at hj; rw [tab_getD hj]; simp [hne]) (by rw [hg]; exact da_num hv _), hg]
theorem id_right_vec {K : Nat} {da : List Int} (hl : da.length = K) (hv : validA [(K : Int)] da = true) : inN 1 3 [(K : Int)] da [(K : Int), (K : Int)] (idN K) = da := by
  have b0 : behN [(K : Int), (K : Int)] 0 = K := by simp [behN, prodN]
  refine id_right hv (fun n => ?_) ?_ (fun n hn => by omega)
  · unfold inX
    rw [b0]
    show lnK [(K : Int)] da ((0 : Nat) : Int) (n / K) 0 = _
    have l0 : lenN [(K : Int)] 0 = K := by simp [lenN]
    have b1 : behN [(K : Int)] 0 = 1 := rfl
    simp only [lnK, Int.toNat_natCast, lnD, l0, b1, Nat.mul_one, Nat.add_zero]
  · have : inSh [(K : Int)] [(K : Int), (K : Int)] = [(K : Int)] := rfl
    rw [this]; simp [prodN, hl]
theorem id_right_mat {A K : Nat} {da : List Int} (hv : validA [(A : Int), (K : Int)] da = true) : inN 1 3 [(A : Int), (K : Int)] da [(K : Int), (K : Int)] (idN K) = da := by
  have b0 : behN [(K : Int), (K : Int)] 0 = K := by simp [behN, prodN]
  have hl : da.length = A * K := by have := data_prod hv; simpa [prodN] using this
  refine id_right hv (fun n => ?_) ?_ (fun n hn => mulr_pos (a := A) (n := n) (by omega))
  · unfold inX
    rw [b0]
    show lnK [(A : Int), (K : Int)] da ((1 : Nat) : Int) (n / K) 0 = _
    have l0 : lenN [(A : Int), (K : Int)] 1 = K := by simp [lenN]
    have b1 : behN [(A : Int), (K : Int)] 1 = 1 := rfl
    simp only [lnK, Int.toNat_natCast, lnD, l0, b1, Nat.mul_one, Nat.add_zero]
  · have : inSh [(A : Int), (K : Int)] [(K : Int), (K : Int)] = [(A : Int), (K : Int)] := rfl
    rw [this]; simp [prodN, hl]
theorem id_left {K : Nat} {da : List Int} (hv : validA [(K : Int), (K : Int)] da = true) : inN 1 3 [(K : Int), (K : Int)] (idN K) [(K : Int), (K : Int)] da = da := by
  have hl : da.length = K * K := by have := data_prod hv; simpa [prodN] using this
  unfold inN
  have : inSh [(K : Int), (K : Int)] [(K : Int), (K : Int)] = [(K : Int), (K : Int)] := rfl
  have hp : prodN [(K : Int), (K : Int)] = K * K := by simp [prodN]
  rw [this, hp]
  refine tab_ext' hl fun n hn => ?_
  have h0 : 0 < K := mulr_pos hn
  have hm := Nat.mod_lt n h0
  have hd : n / K < K := Nat.div_lt_of_lt_mul hn
  have e : n / K * K + n % K = n := by rw [Nat.mul_comm]; exact Nat.div_add_mod n K
  have el : inL (q2v (operF 3)) [(K : Int), (K : Int)] (idN K) [(K : Int), (K : Int)] da n = tab K fun t => bif decide (n / K = t) then da.getD (t * K + n % K) 0 else 0 := by
    have := in_at (g := 3) (K := K) (da := idN K) (db := da) hd hm
    rw [e] at this
    rw [this]
    refine tab_congr fun t ht => ?_
    rw [id_get hd ht]
    exact (op3_t (da_num hv _) _).2
  have hg : (tab K fun t => bif decide (n / K = t) then da.getD (t * K + n % K) 0 else 0).getD (n / K) 0 = da.getD n 0 := by
    rw [tab_getD hd]
    simp [e]
  rw [el, red_at (i := n / K) (by rw [tab_length]; exact hd) (fun j hj hne => by rw [tab_length] at hj; rw [tab_getD hj]; simp [Ne.symm hne]) (by rw [hg]; exact da_num hv _), hg]
theorem sum_bd : ∀ {xs : List Int} {B : Int}, (∀ x ∈ xs, -B ≤ x ∧ x ≤ B) → -(xs.length * B) ≤ xs.sum ∧ xs.sum ≤ xs.length * B
  | [], B, _ => by simp
  | x :: xs, B, h => by
    have h1 := h x (by simp)
    have h2 := sum_bd (xs := xs) (B := B) fun y hy => h y (by simp [hy])
    have e : ((x :: xs).length : Int) * B = xs.length * B + B := by simp [Int.add_mul]
    rw [e, List.sum_cons]
    omega
theorem red_sum : ∀ {xs : List Int} {B : Int}, (∀ x ∈ xs, -B ≤ x ∧ x ≤ B) → 0 ≤ B → xs.length * B ≤ 1000000 → redF 1 xs = xs.sum
  | [], _, _, _, _ => rfl
  | [x], _, _, _, _ => by simp [redF]
  | x :: y :: ys, B, h, h0, hb => by
    have e : ((x :: y :: ys).length : Int) * B = (y :: ys).length * B + B := by simp [Int.add_mul]
    rw [e] at hb
    have h1 := h x (by simp)
    have ih := red_sum (xs := y :: ys) (B := B) (fun z hz => h z (List.mem_cons_of_mem _ hz)) h0 (by omega)
    have hs := sum_bd (xs := y :: ys) (B := B) fun z hz => h z (List.mem_cons_of_mem _ hz)
    rw [redF_cons (by simp), ih, List.sum_cons (a := x)]
    show limV (IntKind.wrap .i64 (x + (y :: ys).sum)) = _
    rw [wS (by omega) (by omega), lim_self (by omega) (by omega)]
theorem tr_sq {k : Nat} {da : List Int} (hk : k ≤ 4) (hl : da.length = k * k) (hv : validA [(k : Int), (k : Int)] da = true) (ha : allB da (-100) 100 = true) : trS [(k : Int), (k : Int)] da = [(k : Int), (k : Int)] ∧ sqB [(k : Int), (k : Int)] (trD [(k : Int), (k : Int)] da) = true ∧ validA [(k : Int), (k : Int)] (trD [(k : Int), (k : Int)] da) = true ∧
    (trD [(k : Int), (k : Int)] da).length = k * k ∧ ∀ i j, i < k → j < k → (trD [(k : Int), (k : Int)] da).getD (j * k + i) 0 = da.getD (i * k + j) 0 := by
  obtain ⟨e1, e2, e3⟩ := tr_two hv
  have hl2 : (trD [(k : Int), (k : Int)] da).length = k * k := by have := data_prod e2; simpa [prodN] using this
  refine ⟨e1, sqB_of hk hl2 (allB_iff.2 fun x hx => ?_) e2, e2, hl2, e3⟩
  obtain ⟨n, hn, rfl⟩ := List.getElem_of_mem hx
  have h0 : 0 < k := mulr_pos (a := k) (n := n) (by omega)
  rw [gEd hn]
  rw [hl2] at hn
  have e : n / k * k + n % k = n := by rw [Nat.mul_comm]; exact Nat.div_add_mod n k
  have := e3 (n % k) (n / k) (Nat.mod_lt n h0) (Nat.div_lt_of_lt_mul hn)
  rw [e] at this
  rw [this]
  exact getD_all (P := fun x => -100 ≤ x ∧ x ≤ 100) (by omega) (allB_iff.1 ha) _
theorem tab_mem' {n : Nat} {f : Nat → Int} {P : Int → Prop} (h : ∀ i, i < n → P (f i)) : ∀ x ∈ tab n f, P x := fun x hx => by
  obtain ⟨i, hi, rfl⟩ := tab_mem hx
  exact h i hi
theorem sum_rows (k : Nat) (f : Nat → Int) : ∀ i, (tab (i * k) f).sum = (tab i fun r => (tab k fun t => f (r * k + t)).sum).sum
  | 0 => by simp [tab]
  | i + 1 => by
    rw [Nat.succ_mul, tab_app, List.sum_append, sum_rows k f i, tab_succ, List.sum_append]
    simp
/-- The trace of a matrix's product with itself, turned. -/
theorem tr_power {k : Nat} {da : List Int} (hk : k ≤ 4) (hl : da.length = k * k) (hv : validA [(k : Int), (k : Int)] da = true) (h5 : ∀ i, -5 ≤ da.getD i 0 ∧ da.getD i 0 ≤ 5) :
    sqB [(k : Int), (k : Int)] (inN 1 3 [(k : Int), (k : Int)] da [(k : Int), (k : Int)] (trD [(k : Int), (k : Int)] da)) = true ∧
    traV [(k : Int), (k : Int)] (inN 1 3 [(k : Int), (k : Int)] da [(k : Int), (k : Int)] (trD [(k : Int), (k : Int)] da)) = (tab (k * k) fun n => da.getD n 0 * da.getD n 0).sum := by
  obtain ⟨e1, e2, e3⟩ := tr_two hv
  have hb := inB_sq hk hv e2
  have hvb := in_valid hb
  have hsh : inSh [(k : Int), (k : Int)] [(k : Int), (k : Int)] = [(k : Int), (k : Int)] := rfl
  rw [hsh] at hvb
  have hlb : (inN 1 3 [(k : Int), (k : Int)] da [(k : Int), (k : Int)] (trD [(k : Int), (k : Int)] da)).length = k * k := by have := data_prod hvb; simpa [prodN] using this
  have sq : ∀ x y : Int, -5 ≤ x → x ≤ 5 → -5 ≤ y → y ≤ 5 → -25 ≤ x * y ∧ x * y ≤ 25 := fun x y a b c d => by
    have hx : x = -5 ∨ x = -4 ∨ x = -3 ∨ x = -2 ∨ x = -1 ∨ x = 0 ∨ x = 1 ∨ x = 2 ∨ x = 3 ∨ x = 4 ∨ x = 5 := by omega
    rcases hx with rfl | rfl | rfl | rfl | rfl | rfl | rfl | rfl | rfl | rfl | rfl <;> omega
  have hop : ∀ i j, operF 3 (da.getD i 0) (da.getD j 0) = da.getD i 0 * da.getD j 0 := fun i j => by
    have := sq _ _ (h5 i).1 (h5 i).2 (h5 j).1 (h5 j).2
    show limV (IntKind.wrap .i64 (da.getD i 0 * da.getD j 0)) = _
    rw [wS (by omega) (by omega), lim_self (by omega) (by omega)]
  have hent : ∀ i j, i < k → j < k → (inN 1 3 [(k : Int), (k : Int)] da [(k : Int), (k : Int)] (trD [(k : Int), (k : Int)] da)).getD (i * k + j) 0 = (tab k fun t => da.getD (i * k + t) 0 * da.getD (j * k + t) 0).sum := fun i j hi hj => by
    have n0 := (enc2 (B := k) (M := k) hi hj).1
    have hp : prodN [(k : Int), (k : Int)] = k * k := by simp [prodN]
    unfold inN
    rw [hsh, hp, tab_getD n0, in_at hi hj]
    have et : (tab k fun t => operF 3 (da.getD (i * k + t) 0) ((trD [(k : Int), (k : Int)] da).getD (t * k + j) 0)) = tab k fun t => da.getD (i * k + t) 0 * da.getD (j * k + t) 0 := tab_congr fun t ht => by
      rw [e3 j t hj ht, hop]
    rw [et]
    refine red_sum (B := 25) (tab_mem' (P := fun x => -25 ≤ x ∧ x ≤ 25) fun t ht => sq _ _ (h5 _).1 (h5 _).2 (h5 _).1 (h5 _).2) (by omega) ?_
    rw [tab_length]; omega
  have hbnd : ∀ i j, i < k → j < k → -100 ≤ (tab k fun t => da.getD (i * k + t) 0 * da.getD (j * k + t) 0).sum ∧ (tab k fun t => da.getD (i * k + t) 0 * da.getD (j * k + t) 0).sum ≤ 100 := fun i j hi hj => by
    have := sum_bd (xs := tab k fun t => da.getD (i * k + t) 0 * da.getD (j * k + t) 0) (B := 25) (tab_mem' (P := fun x => -25 ≤ x ∧ x ≤ 25) fun t ht => sq _ _ (h5 _).1 (h5 _).2 (h5 _).1 (h5 _).2)
    rw [tab_length] at this
    omega
  have hS : sqB [(k : Int), (k : Int)] (inN 1 3 [(k : Int), (k : Int)] da [(k : Int), (k : Int)] (trD [(k : Int), (k : Int)] da)) = true := by
    refine sqB_of hk hlb (allB_iff.2 fun x hx => ?_) hvb
    obtain ⟨n, hn, rfl⟩ := List.getElem_of_mem hx
    have hn' : n < k * k := by omega
    have h0 : 0 < k := mulr_pos hn'
    rw [gEd hn]
    have e : n / k * k + n % k = n := by rw [Nat.mul_comm]; exact Nat.div_add_mod n k
    have := hent (n / k) (n % k) (Nat.div_lt_of_lt_mul hn') (Nat.mod_lt n h0)
    rw [e] at this
    rw [this]
    exact hbnd _ _ (Nat.div_lt_of_lt_mul hn') (Nat.mod_lt n h0)
  refine ⟨hS, ?_⟩
  unfold traV
  rw [hS, cond_true, dg_sq hk hlb hvb rfl]
  have ed : (tab k fun i => (inN 1 3 [(k : Int), (k : Int)] da [(k : Int), (k : Int)] (trD [(k : Int), (k : Int)] da)).getD (i * (k + 1)) 0) = tab k fun i => (tab k fun t => da.getD (i * k + t) 0 * da.getD (i * k + t) 0).sum := tab_congr fun i hi => by
    rw [Nat.mul_succ]; exact hent i i hi hi
  rw [ed, sumW_eq (tab_mem' (P := fun x => -1000000 ≤ x ∧ x ≤ 1000000) fun i hi => by have := hbnd i i hi hi; omega) (by rw [tab_length]; omega), sum_rows]
end Go.Ab
namespace Go.Ab
theorem wi_parts {a k : Nat} : behN [(a : Int), (k : Int)] 0 = k ∧ lenN [(a : Int), (k : Int)] 0 = a ∧ behN [(a : Int), (k : Int)] 1 = 1 ∧ lenN [(a : Int), (k : Int)] 1 = k ∧ befN [(a : Int), (k : Int)] 1 = a :=
  ⟨by simp [behN, prodN], by simp [lenN], rfl, by simp [lenN], by simp [befN, prodN]⟩
theorem wi_cell {sh da : List Int} {k i : Nat} (h : wiB sh da (k : Int) = true) (hi : i < da.length + 1 - k) : ceB (wiS sh da (k : Int)) (wiD sh da (k : Int)) (i : Int) = true ∧ ceD (wiS sh da (k : Int)) (wiD sh da (k : Int)) (i : Int) = wpL da k i := by
  have hv := wi_valid h
  obtain ⟨k', e', k1, k2, hvc⟩ := wiK_inv (by simp only [wiB, Bool.and_eq_true] at h; exact h.1)
  have ek : k' = k := by omega
  subst ek
  have e1 : wiS sh da (k' : Int) = [((da.length + 1 - k' : Nat) : Int), (k' : Int)] := by simp only [wiS, h, cond_true, wiSh, Int.toNat_natCast]
  have e2 : wiD sh da (k' : Int) = wiN da k' := by simp only [wiD, h, cond_true, Int.toNat_natCast]
  unfold wiSh at hv
  rw [Int.toNat_natCast] at hv
  obtain ⟨p1, p2, _, _, _⟩ := wi_parts (a := da.length + 1 - k') (k := k')
  have hb : ceB [((da.length + 1 - k' : Nat) : Int), (k' : Int)] (wiN da k') (i : Int) = true := by
    simp only [ceB, axB, hv, axOk, p2]
    simp
    omega
  rw [e1, e2]
  refine ⟨hb, ?_⟩
  simp only [ceD, hb, cond_true, ceN, p1, Int.toNat_natCast]
  have hle : (i + 1) * k' ≤ (da.length + 1 - k') * k' := Nat.mul_le_mul (by omega) (Nat.le_refl _)
  rw [Nat.succ_mul] at hle
  unfold wiN
  rw [tab_cut hle, wpL_tab (by omega)]
  refine tab_congr fun t ht => ?_
  rw [(divmod ht).1, (divmod ht).2]
theorem wi_one (da : List Int) : wiN da 1 = da := by
  unfold wiN
  rw [Nat.mul_one, Nat.add_sub_cancel]
  exact tab_ext' rfl fun i hi => by rw [Nat.div_one, Nat.mod_one, Nat.add_zero]
theorem wi_whole {da : List Int} (h : 0 < da.length) : wiN da da.length = da := by
  unfold wiN
  rw [Nat.add_sub_cancel_left, Nat.one_mul]
  exact tab_ext' rfl fun i hi => by rw [Nat.div_eq_of_lt hi, Nat.mod_eq_of_lt hi, Nat.zero_add]
theorem wiK_of {sh da : List Int} {k : Nat} (hv : vcB sh da = true) (k1 : 1 ≤ k) (k2 : k ≤ da.length + 1) : wiK sh da (k : Int) = true := by
  simp only [wiK, hv, Bool.true_and, Bool.and_eq_true, decide_eq_true_eq]; omega
theorem wiB_of {sh da : List Int} {k : Nat} (hv : vcB sh da = true) (k1 : 1 ≤ k) (k2 : k ≤ da.length + 1) (k3 : k ≤ 60) (h : (da.length + 1 - k) * k ≤ 60) : wiB sh da (k : Int) = true ∧ wiS sh da (k : Int) = [((da.length + 1 - k : Nat) : Int), (k : Int)] ∧ wiD sh da (k : Int) = wiN da k := by
  have hl := (vcB_inv hv).2.2.1
  have hb : wiB sh da (k : Int) = true := by
    simp only [wiB, wiK_of hv k1 k2, wiSh, Int.toNat_natCast, (vS_two (a := da.length + 1 - k) (b := k) (by omega) k3 h).1, Bool.and_self]
  refine ⟨hb, ?_, ?_⟩
  · simp only [wiS, hb, cond_true, wiSh, Int.toNat_natCast]
  · simp only [wiD, hb, cond_true, Int.toNat_natCast]
theorem wiB_eq {sh da : List Int} {n : Int} (h : wiB sh da n = true) : ∃ k : Nat, n = k ∧ 1 ≤ k ∧ k ≤ da.length + 1 ∧ vcB sh da = true ∧ wiS sh da n = [((da.length + 1 - k : Nat) : Int), (k : Int)] ∧ wiD sh da n = wiN da k ∧ validA [((da.length + 1 - k : Nat) : Int), (k : Int)] (wiN da k) = true := by
  have hv := wi_valid h
  obtain ⟨k, rfl, k1, k2, hvc⟩ := wiK_inv (by simp only [wiB, Bool.and_eq_true] at h; exact h.1)
  refine ⟨k, rfl, k1, k2, hvc, ?_, ?_, ?_⟩
  · simp only [wiS, h, cond_true, wiSh, Int.toNat_natCast]
  · simp only [wiD, h, cond_true, Int.toNat_natCast]
  · unfold wiSh at hv
    rw [Int.toNat_natCast] at hv
    exact hv
/-- A reduction of windows goes over each window. -/
theorem wi_rdx {op : Int} {da : List Int} {k : Nat} (ho : opOk op = true) (k2 : k ≤ da.length + 1) (hl : da.length ≤ 60) (k1 : 1 ≤ k) (hv : validA [((da.length + 1 - k : Nat) : Int), (k : Int)] (wiN da k) = true) :
    rdxB op [((da.length + 1 - k : Nat) : Int), (k : Int)] (wiN da k) 1 = true ∧ rdxS op [((da.length + 1 - k : Nat) : Int), (k : Int)] (wiN da k) 1 = [((da.length + 1 - k : Nat) : Int)] ∧
    rdxD op [((da.length + 1 - k : Nat) : Int), (k : Int)] (wiN da k) 1 = tab (da.length + 1 - k) fun i => redF op (wpL da k i) := by
  obtain ⟨_, _, p3, p4, p5⟩ := wi_parts (a := da.length + 1 - k) (k := k)
  have he : ([((da.length + 1 - k : Nat) : Int), (k : Int)] : List Int).eraseIdx (1 : Int).toNat = [((da.length + 1 - k : Nat) : Int)] := rfl
  have hb : rdxB op [((da.length + 1 - k : Nat) : Int), (k : Int)] (wiN da k) 1 = true := by
    simp only [rdxB, ho, axB, hv, axOk, he, (validS_one (m := ((da.length + 1 - k : Nat) : Int)) (by omega) (by omega)).1]
    rfl
  refine ⟨hb, by simp only [rdxS, hb, cond_true, he], ?_⟩
  simp only [rdxD, hb, cond_true, rdxN]
  show tab (befN _ 1 * behN _ 1) (fun n => redF op (lnK _ (wiN da k) 1 (n / behN _ 1) (n % behN _ 1))) = _
  rw [p3, p5, Nat.mul_one]
  refine tab_congr fun i hi => ?_
  congr 1
  rw [Nat.div_one, Nat.mod_one, wpL_tab (by omega)]
  show lnD (lenN _ 1) (behN _ 1) (wiN da k) i 0 = _
  rw [p4, p3]
  unfold lnD
  refine tab_congr fun t ht => ?_
  have hlt : i * k + t < (da.length + 1 - k) * k := by
    have : (i + 1) * k ≤ (da.length + 1 - k) * k := Nat.mul_le_mul (by omega) (Nat.le_refl _)
    rw [Nat.succ_mul] at this
    omega
  rw [Nat.mul_one, Nat.add_zero, wiN, tab_getD hlt, (divmod ht).1, (divmod ht).2]
theorem wp_mem {da : List Int} {k i : Nat} {x : Int} (h : x ∈ wpL da k i) : x ∈ da := List.mem_of_mem_drop (List.mem_of_mem_take h)
/-- Sums of small numbers. -/
theorem wp_sum {da : List Int} {k i : Nat} (hl : da.length ≤ 60) (h : ∀ x ∈ da, -10000 ≤ x ∧ x ≤ 10000) : redF 1 (wpL da k i) = limV (sumW (wpL da k i)) := by
  have hle : (wpL da k i).length ≤ 60 := by simp [wpL]; omega
  have hm : ∀ x ∈ wpL da k i, -10000 ≤ x ∧ x ≤ 10000 := fun x hx => h x (wp_mem hx)
  have hs := sum_bd hm
  rw [red_sum hm (by omega) (by omega), sumW_eq (fun x hx => by have := hm x hx; omega) (by omega), lim_self (by omega) (by omega)]
theorem nb_wi {op : Int} {da : List Int} (h : 0 < da.length) : (tab (da.length + 1 - 2) fun i => redF op (wpL da 2 i)) = nbN op da := by
  unfold nbN
  rw [show da.length + 1 - 2 = da.length - 1 by omega]
  refine tab_congr fun i hi => ?_
  rw [wpL_tab (by omega)]
  rfl
theorem ms_one {da : List Int} (h : vecOk da = true) : msN da 1 = da := by
  obtain ⟨hl, hm⟩ := vecOk_inv h
  unfold msN
  rw [Nat.add_sub_cancel]
  refine tab_ext' rfl fun i hi => ?_
  rw [wpL_tab (by omega)]
  show limV (sumF [da.getD (i + 0) 0] 0) = _
  have : -1000000 ≤ da.getD i 0 ∧ da.getD i 0 ≤ 1000000 := getD_all (P := fun x => -1000000 ≤ x ∧ x ≤ 1000000) (by omega) hm i
  simp only [sumF, Nat.add_zero, Int.zero_add]
  rw [wS (by omega) (by omega), lim_self (by omega) (by omega)]
theorem dr_vec {da : List Int} (hv : validA [((da.length : Nat) : Int)] da = true) (n : Int) (hn : cntB n = true) : drS [((da.length : Nat) : Int)] da 0 n = [((da.length - n.natAbs : Nat) : Int)] ∧ drD [((da.length : Nat) : Int)] da 0 n = tab (da.length - n.natAbs) fun i => da.getD (n.toNat + i) 0 := by
  have hb : drB [((da.length : Nat) : Int)] da 0 n = true := by simp [drB, axB, hv, axOk, hn]
  have hk : lenK [((da.length : Nat) : Int)] 0 = da.length := by simp [lenK, lenN]
  simp only [drS, drD, hb, cond_true, hk]
  refine ⟨by simp [alS, drL_length], ?_⟩
  rw [al_vec (fun i hi => by rw [drL_length] at hi; rw [dr_get hi]; omega), drL_length]
  refine tab_congr fun i hi => ?_
  rw [dr_get hi, Int.toNat_natCast]
theorem com_vec {op : Int} {xs ys : List Int} {m : Nat} (ho : opOk op = true) (hx : xs.length = m) (hy : ys.length = m) (hm : m ≤ 60) (vx : vecOk xs = true) (vy : vecOk ys = true) :
    comB op [(m : Int)] xs [(m : Int)] ys = true ∧ comS op [(m : Int)] xs [(m : Int)] ys = [(m : Int)] ∧ comD op [(m : Int)] xs [(m : Int)] ys = tab m fun i => operF op (xs.getD i 0) (ys.getD i 0) := by
  subst hx
  have v1 := validA_vec vx
  have v2 := validA_vec vy
  rw [hy] at v2
  have hb : comB op [((xs.length : Nat) : Int)] xs [((xs.length : Nat) : Int)] ys = true := by
    simp only [comB, ho, v1, v2, fitB]
    simp
  refine ⟨hb, by simp only [comS, hb, cond_true]; rfl, ?_⟩
  simp only [comD, hb, cond_true]
  have := cD_vec op v1 hy.symm
  rw [hy] at this
  rw [this, pwD_q2]
theorem scan_vec {da : List Int} (hv : validA [((da.length : Nat) : Int)] da = true) : scS 1 [((da.length : Nat) : Int)] da 0 = [((da.length : Nat) : Int)] ∧ scD 1 [((da.length : Nat) : Int)] da 0 = tab da.length fun n => redF 1 (da.take (n + 1)) := by
  have hb : scB 1 [((da.length : Nat) : Int)] da 0 = true := by simp [scB, axB, hv, axOk, opOk]
  refine ⟨by simp only [scS, hb, cond_true], ?_⟩
  simp only [scD, hb, cond_true, scN]
  refine tab_congr fun n hn => ?_
  congr 1
  have b1 : behN [((da.length : Nat) : Int)] (0 : Int).toNat = 1 := rfl
  have l1 : lenN [((da.length : Nat) : Int)] (0 : Int).toNat = da.length := by simp [lenN]
  unfold scL
  rw [b1, l1, Nat.div_one, Nat.mod_one, Nat.div_eq_of_lt hn, Nat.mod_eq_of_lt hn, lnK_vec rfl]
theorem sum_take1 {da : List Int} {i : Nat} (h : i < da.length) : (da.take (i + 1)).sum = (da.take i).sum + da.getD i 0 := by
  rw [← take_push h rfl, List.sum_append]; simp
/-- Differences of sums. -/
theorem nb_scan {da : List Int} (hl : da.length ≤ 60) (h : ∀ x ∈ da, -10000 ≤ x ∧ x ≤ 10000) {i : Nat} (hi : i + 1 < da.length) :
    operF 2 (redF 1 (da.take (i + 1))) (redF 1 (da.take (i + 2))) = - da.getD (i + 1) 0 := by
  have hm : ∀ n x, x ∈ da.take n → -10000 ≤ x ∧ x ≤ 10000 := fun n x hx => h x (List.mem_of_mem_take hx)
  have key : ∀ n, redF 1 (da.take n) = (da.take n).sum ∧ -600000 ≤ (da.take n).sum ∧ (da.take n).sum ≤ 600000 := fun n => by
    have hle : (da.take n).length ≤ 60 := by simp; omega
    have hs := sum_bd (hm n)
    exact ⟨red_sum (hm n) (by omega) (by omega), by omega, by omega⟩
  obtain ⟨a1, a2, a3⟩ := key (i + 1)
  obtain ⟨b1, b2, b3⟩ := key (i + 2)
  have hs : (da.take (i + 2)).sum = (da.take (i + 1)).sum + da.getD (i + 1) 0 := sum_take1 (da := da) (i := i + 1) hi
  have hx : -10000 ≤ da.getD (i + 1) 0 ∧ da.getD (i + 1) 0 ≤ 10000 := getD_all (P := fun x => -10000 ≤ x ∧ x ≤ 10000) (by omega) h _
  rw [a1, b1]
  show limV (IntKind.wrap .i64 ((da.take (i + 1)).sum - (da.take (i + 2)).sum)) = _
  rw [wS (by omega) (by omega), lim_self (by omega) (by omega)]
  omega
end Go.Ab
namespace Go.Ab
theorem pkB_inv {sh da s2 d2 : List Int} (h : pkB sh da s2 d2 = true) : vcB sh da = true ∧ validA s2 d2 = true ∧ allB d2 0 (((da.length : Nat) : Int) - 1) = true ∧ pkS sh da s2 d2 = s2 ∧ pkD sh da s2 d2 = pkN da d2 := by
  have h' := h
  simp only [pkB, Bool.and_eq_true] at h'
  exact ⟨h'.1.1, h'.1.2, h'.2, by simp only [pkS, h, cond_true], by simp only [pkD, h, cond_true]⟩
theorem pkB_of {sh da s2 d2 : List Int} (h1 : vcB sh da = true) (h2 : validA s2 d2 = true) (h3 : allB d2 0 (((da.length : Nat) : Int) - 1) = true) : pkB sh da s2 d2 = true ∧ pkS sh da s2 d2 = s2 ∧ pkD sh da s2 d2 = pkN da d2 := by
  have h : pkB sh da s2 d2 = true := by simp only [pkB, h1, h2, h3, Bool.and_self]
  exact ⟨h, by simp only [pkS, h, cond_true], by simp only [pkD, h, cond_true]⟩
theorem pk_get {da pl : List Int} {i : Nat} (hi : i < pl.length) : (pkN da pl).getD i 0 = da.getD (pl.getD i 0).toNat 0 := tab_getD hi
theorem pk_pk {da d2 r : List Int} (hr : allB r 0 (((d2.length : Nat) : Int) - 1) = true) : pkN (pkN da d2) r = pkN da (pkN d2 r) := by
  unfold pkN
  rw [tab_length]
  refine tab_congr fun i hi => ?_
  have hb := allB_inv hr hi
  rw [tab_getD hi]
  exact tab_getD (by omega)
theorem pk_vec {sh da s2 d2 : List Int} (hv : vcB sh da = true) (hl : d2.length ≤ 60) : vecOk (pkN da d2) = true := by
  obtain ⟨_, _, _, ha⟩ := vcB_inv hv
  refine vec_part (by rw [pkN_length]; exact hl) fun x hx => ?_
  simp only [pkN, tab, List.mem_map] at hx
  obtain ⟨i, _, rfl⟩ := hx
  exact getD_all (P := fun x => -1000000 ≤ x ∧ x ≤ 1000000) (by omega) (allB_iff.1 ha) _
theorem up_in (n : Nat) : allB (upN n) 0 (((n : Nat) : Int) - 1) = true := allB_iff.2 fun x hx => by
  have := upN_mem.1 hx
  omega
theorem up_rev_in (n : Nat) : allB (upN n).reverse 0 (((n : Nat) : Int) - 1) = true := allB_iff.2 fun x hx => by
  have := upN_mem.1 (List.mem_reverse.1 hx)
  omega
theorem pk_in {da pl : List Int} {lo hi : Int} (h : allB da lo hi = true) (hp : allB pl 0 (((da.length : Nat) : Int) - 1) = true) : allB (pkN da pl) lo hi = true := allB_iff.2 fun x hx => by
  simp only [pkN, tab, List.mem_map, List.mem_range] at hx
  obtain ⟨i, hi', rfl⟩ := hx
  have hb := allB_inv hp hi'
  exact allB_inv h (by omega)
end Go.Ab
