import Derived.Test.YtmonjjdcebboiaaEap1
open Go Go.Ab
set_option maxRecDepth 100000
set_option linter.unusedVariables false
set_option linter.unusedSimpArgs false
namespace Go.Ab
def sqB (sh da : List Int) : Bool := validA sh da && decide (sh.length = 2) && decide (sh.getD 0 0 = sh.getD 1 0) && decide (sh.getD 0 0 ≤ 4) && allB da (-100) 100
def idN (n : Nat) : List Int := tab (n * n) fun i => tInt (decide (i / n = i % n))
def idOk (n : Int) : Bool := decide (0 ≤ n) && decide (n ≤ 4)
def idS (n : Int) : List Int := bif idOk n then [n, n] else []
def idD (n : Int) : List Int := bif idOk n then idN n.toNat else []
def sumF : List Int → Int → Int
  | [], a => a
  | x :: xs, a => sumF xs (IntKind.wrap .i64 (a + x))
def sumW (xs : List Int) : Int := sumF xs 0
def traV (sh da : List Int) : Int := bif sqB sh da then sumW (dgD sh da) else 0
def powL (sh da : List Int) : Nat → List Int
  | 0 => idN (sh.getD 0 0).toNat
  | k + 1 => inN 1 3 sh (powL sh da k) sh da
def poOk (sh da : List Int) (n : Int) : Bool := sqB sh da && (decide (0 ≤ n) && decide (n ≤ 5))
def pwS (sh da : List Int) (n : Int) : List Int := bif poOk sh da n then sh else []
def ppD (sh da : List Int) (n : Int) : List Int := bif poOk sh da n then powL sh da n.toNat else []
def wiK (sh da : List Int) (n : Int) : Bool := vcB sh da && (decide (1 ≤ n) && decide (n ≤ ((da.length + 1 : Nat) : Int)))
def wiN (da : List Int) (n : Nat) : List Int := tab ((da.length + 1 - n) * n) fun i => da.getD (i / n + i % n) 0
def wiSh (da : List Int) (n : Int) : List Int := [((da.length + 1 - n.toNat : Nat) : Int), n]
def wiB (sh da : List Int) (n : Int) : Bool := wiK sh da n && validS (wiSh da n)
def wiS (sh da : List Int) (n : Int) : List Int := bif wiB sh da n then wiSh da n else []
def wiD (sh da : List Int) (n : Int) : List Int := bif wiB sh da n then wiN da n.toNat else []
def wpL (da : List Int) (n i : Nat) : List Int := (da.drop i).take n
def msN (da : List Int) (n : Nat) : List Int := tab (da.length + 1 - n) fun i => limV (sumW (wpL da n i))
def msS (sh da : List Int) (n : Int) : List Int := bif wiK sh da n then [((da.length + 1 - n.toNat : Nat) : Int)] else []
def msD (sh da : List Int) (n : Int) : List Int := bif wiK sh da n then msN da n.toNat else []
def nbB (op : Int) (sh da : List Int) : Bool := opOk op && vcB sh da && decide (0 < da.length)
def nbN (op : Int) (da : List Int) : List Int := tab (da.length - 1) fun i => operF op (da.getD i 0) (da.getD (i + 1) 0)
def nbS (op : Int) (sh da : List Int) : List Int := bif nbB op sh da then [((da.length - 1 : Nat) : Int)] else []
def nbD (op : Int) (sh da : List Int) : List Int := bif nbB op sh da then nbN op da else []

theorem sqB_inv {sh da : List Int} (h : sqB sh da = true) : ∃ n : Nat, n ≤ 4 ∧ sh = [(n : Int), (n : Int)] ∧ da.length = n * n ∧ validA sh da = true ∧ allB da (-100) 100 = true := by
  simp only [sqB, Bool.and_eq_true, decide_eq_true_eq] at h
  obtain ⟨⟨⟨⟨h1, h2⟩, h3⟩, h4⟩, h5⟩ := h
  obtain ⟨a1, a2, _⟩ := validA_inv h1
  match sh, h2 with
  | [a, b], _ =>
    have e : a = b := h3
    subst e
    have h4' : a ≤ 4 := h4
    rcases validS_cases a1 with h | ⟨x, h, _⟩ | ⟨x, y, h, b0, b1, c0, c1, hm⟩ | ⟨x, y, z, h, _⟩
    · cases h
    · cases h
    · cases h
      refine ⟨a.toNat, by omega, by rw [Int.toNat_of_nonneg b0], ?_, h1, h5⟩
      have hm := mul60 b0 b1 b0 b1
      simp only [volW, volFrom, Int.one_mul, wS (x := a) (by omega) (by omega), wS (x := a * a) (by omega) (by omega)] at a2
      have : ((a.toNat * a.toNat : Nat) : Int) = a * a := by rw [Int.natCast_mul, Int.toNat_of_nonneg b0]
      omega
    · cases h
theorem sq4 {n : Nat} (h : n ≤ 4) : n * n ≤ 16 := Nat.le_trans (Nat.mul_le_mul h h) (by omega)
theorem sqB_of {n : Nat} {da : List Int} (hn : n ≤ 4) (hl : da.length = n * n) (h : allB da (-100) 100 = true) (hv : validA [(n : Int), (n : Int)] da = true) : sqB [(n : Int), (n : Int)] da = true := by
  simp only [sqB, hv, h]
  simp
  omega
theorem idN_length (n : Nat) : (idN n).length = n * n := tab_length _ _
theorem idN_mem {n : Nat} {x : Int} (h : x ∈ idN n) : x = 0 ∨ x = 1 := by
  simp only [idN, tab, List.mem_map] at h
  obtain ⟨i, _, rfl⟩ := h
  cases decide (i / n = i % n) <;> simp [tInt]
theorem vol_sq {n : Nat} (h : n ≤ 4) : validS [(n : Int), (n : Int)] = true ∧ volW [(n : Int), (n : Int)] = ((n * n : Nat) : Int) := by
  have : ∀ i : Fin 5, validS [(i.1 : Int), (i.1 : Int)] = true ∧ volW [(i.1 : Int), (i.1 : Int)] = ((i.1 * i.1 : Nat) : Int) := by decide +kernel
  exact this ⟨n, by omega⟩
theorem valid_sq {n : Nat} {da : List Int} (h : n ≤ 4) (hl : da.length = n * n) (ha : ∀ x ∈ da, -1000000 ≤ x ∧ x ≤ 1000000) : validA [(n : Int), (n : Int)] da = true := by
  obtain ⟨h1, h2⟩ := vol_sq h
  unfold validA
  rw [h1, h2, hl]
  simp [allB]
  intro x hx
  exact ha x hx
theorem id_valid {n : Nat} (h : n ≤ 4) : validA [(n : Int), (n : Int)] (idN n) = true := valid_sq h (idN_length n) fun x hx => by
  rcases idN_mem hx with rfl | rfl <;> omega
theorem idOk_of {n : Nat} (h : n ≤ 4) : idOk (n : Int) = true := by simp [idOk]; omega
theorem idOk_inv {n : Int} (h : idOk n = true) : ∃ k : Nat, n = k ∧ k ≤ 4 := by
  simp [idOk] at h
  exact ⟨n.toNat, by omega, by omega⟩
theorem idSD {n : Nat} (h : n ≤ 4) : idS (n : Int) = [(n : Int), (n : Int)] ∧ idD (n : Int) = idN n := by
  simp only [idS, idD, idOk_of h, cond_true, Int.toNat_natCast, and_self]
theorem id_len (n : Int) : (idS n).length ≤ 3 ∧ (idD n).length ≤ 60 := by
  unfold idS idD
  cases h : idOk n with
  | false => simp
  | true =>
    obtain ⟨k, rfl, hk⟩ := idOk_inv h
    have := sq4 hk
    simp [idN_length]
    omega
theorem sumF_app (xs ys : List Int) : ∀ a, sumF (xs ++ ys) a = sumF ys (sumF xs a) := by
  induction xs with
  | nil => intro a; rfl
  | cons x xs ih => intro a; simp only [List.cons_append, sumF]; exact ih _
theorem sumF_bd : ∀ {xs : List Int} {a B : Int}, (∀ x ∈ xs, -B ≤ x ∧ x ≤ B) → 0 ≤ B → B ≤ 1000000 → xs.length ≤ 100000 → -1000000000000 ≤ a → a ≤ 1000000000000 → sumF xs a = a + xs.sum
  | [], a, B, _, _, _, _, _, _ => by simp [sumF]
  | x :: xs, a, B, h, h0, h1, h2, h3, h4 => by
    have hx := h x (by simp)
    simp only [List.length_cons] at h2
    simp only [sumF, List.sum_cons]
    rw [wS (by omega) (by omega)]
    have key : ∀ (ys : List Int) (b : Int), (∀ y ∈ ys, -1000000 ≤ y ∧ y ≤ 1000000) → ys.length ≤ 100000 → -1000001000000 - 1000000 * (100000 - (ys.length : Int)) ≤ b → b ≤ 1000001000000 + 1000000 * (100000 - (ys.length : Int)) → sumF ys b = b + ys.sum := by
      intro ys
      induction ys with
      | nil => intro b _ _ _ _; simp [sumF]
      | cons y ys ih =>
        intro b hy hl hb1 hb2
        have := hy y (by simp)
        simp only [List.length_cons] at hl hb1 hb2
        simp only [sumF, List.sum_cons]
        rw [wS (by omega) (by omega), ih (b + y) (fun z hz => hy z (by simp [hz])) (by omega) (by omega) (by omega)]
        omega
    rw [key xs (a + x) (fun y hy => by have := h y (by simp [hy]); omega) (by omega) (by omega) (by omega)]
    omega
theorem sumW_eq {xs : List Int} (h : ∀ x ∈ xs, -1000000 ≤ x ∧ x ≤ 1000000) (hl : xs.length ≤ 100000) : sumW xs = xs.sum := by
  unfold sumW
  rw [sumF_bd h (by omega) (by omega) hl (by omega) (by omega)]
  omega
theorem big_iff {n : Int} (h1 : -1000000 ≤ n) (h2 : n ≤ 1000000) : decide (absV n > 100) = !(decide (-100 ≤ n) && decide (n ≤ 100)) := by
  have e : absV n = (if 0 - n > n then 0 - n else n) := by
    unfold absV maxI
    rw [wS (by omega) (by omega)]
  rw [e]
  by_cases h : 0 - n > n
  · rw [if_pos h]
    by_cases h3 : -100 ≤ n
    · rw [decide_eq_true h3, decide_eq_true (by omega : n ≤ 100), decide_eq_false (by omega)]; rfl
    · rw [decide_eq_false h3, decide_eq_true (by omega)]; rfl
  · rw [if_neg h]
    by_cases h3 : n ≤ 100
    · rw [decide_eq_true h3, decide_eq_true (by omega : -100 ≤ n), decide_eq_false (by omega)]; rfl
    · rw [decide_eq_false h3, decide_eq_true (by omega : n > 100)]; simp
theorem wiK_inv {sh da : List Int} {n : Int} (h : wiK sh da n = true) : ∃ k : Nat, n = k ∧ 1 ≤ k ∧ k ≤ da.length + 1 ∧ vcB sh da = true := by
  simp only [wiK, Bool.and_eq_true, decide_eq_true_eq] at h
  exact ⟨n.toNat, by omega, by omega, by omega, h.1⟩
theorem wpL_length {da : List Int} {n i : Nat} (h : i + n ≤ da.length) : (wpL da n i).length = n := by
  simp [wpL]; omega
theorem wpL_tab {da : List Int} {n i : Nat} (h : i + n ≤ da.length) : wpL da n i = tab n fun t => da.getD (i + t) 0 := by
  refine List.ext_getElem (by rw [wpL_length h, tab_length]) fun t h1 h2 => ?_
  rw [tab_length] at h2
  simp [wpL, tab]
  rw [List.getElem?_eq_getElem (by omega)]
  rfl
theorem tab_app {m n : Nat} {f : Nat → Int} : tab (m + n) f = tab m f ++ tab n fun t => f (m + t) := by
  induction n with
  | zero => simp [tab]
  | succ n ih => rw [← Nat.add_assoc, tab_succ, ih, tab_succ, List.append_assoc]
theorem wi_push {da : List Int} {n j : Nat} (hn : 1 ≤ n) (h : j + n ≤ da.length) : (tab (j * n) fun i => da.getD (i / n + i % n) 0) ++ wpL da n j = tab ((j + 1) * n) fun i => da.getD (i / n + i % n) 0 := by
  rw [Nat.succ_mul, tab_app, wpL_tab h]
  congr 1
  refine tab_congr fun t ht => ?_
  rw [(divmod ht).1, (divmod ht).2]
theorem wi_bd {L n : Nat} (h1 : n ≤ L + 1) (hL : L ≤ 60) : (L + 1 - n) * n ≤ 3721 := Nat.le_trans (Nat.mul_le_mul (by omega : _ ≤ 61) (by omega : _ ≤ 61)) (by omega)
theorem wiN_length (da : List Int) (n : Nat) : (wiN da n).length = (da.length + 1 - n) * n := tab_length _ _
theorem msN_length (da : List Int) (n : Nat) : (msN da n).length = da.length + 1 - n := tab_length _ _
theorem nbN_length (op : Int) (da : List Int) : (nbN op da).length = da.length - 1 := tab_length _ _
theorem wi_vol {da : List Int} {n : Nat} (hs : validS (wiSh da (n : Int)) = true) : volW (wiSh da (n : Int)) = (((da.length + 1 - n) * n : Nat) : Int) ∧ (da.length + 1 - n) * n ≤ 60 := by
  have hb := vol_bd hs
  unfold wiSh at hs hb ⊢
  rw [Int.toNat_natCast] at hs hb ⊢
  obtain ⟨_, h2, _⟩ := validS_inv hs
  simp only [allB_cons, allB_nil, Bool.and_true, Bool.and_eq_true, decide_eq_true_eq] at h2
  have hm := mul60 h2.1.1 h2.1.2 h2.2.1 h2.2.2
  have e : volW [((da.length + 1 - n : Nat) : Int), (n : Int)] = (((da.length + 1 - n) * n : Nat) : Int) := by
    simp only [volW, volFrom, Int.one_mul]
    rw [wS (x := ((da.length + 1 - n : Nat) : Int)) (by omega) (by omega), wS (by omega) (by omega), Int.natCast_mul]
  rw [e] at hb ⊢
  exact ⟨rfl, by omega⟩
theorem wi_valid {sh da : List Int} {n : Int} (h : wiB sh da n = true) : validA (wiSh da n) (wiN da n.toNat) = true := by
  simp only [wiB, Bool.and_eq_true] at h
  obtain ⟨k, rfl, k1, k2, hv⟩ := wiK_inv h.1
  obtain ⟨_, _, hl, ha⟩ := vcB_inv hv
  obtain ⟨e1, e2⟩ := wi_vol h.2
  unfold validA
  rw [h.2, e1, Int.toNat_natCast, wiN_length]
  simp only [beq_self_eq_true, Bool.and_self, Bool.true_and]
  refine allB_iff.2 fun x hx => ?_
  simp only [wiN, tab, List.mem_map] at hx
  obtain ⟨i, _, rfl⟩ := hx
  exact getD_all (P := fun x => -1000000 ≤ x ∧ x ≤ 1000000) (by omega) (allB_iff.1 ha) _
theorem wi_len (sh da : List Int) (n : Int) : (wiS sh da n).length ≤ 3 ∧ (wiD sh da n).length ≤ 60 := by
  unfold wiS wiD
  cases h : wiB sh da n with
  | false => simp
  | true =>
    have := validA_len (wi_valid h)
    simpa using this
theorem ms_vec {sh da : List Int} {n : Int} (h : wiK sh da n = true) : vecOk (msN da n.toNat) = true := by
  obtain ⟨k, rfl, k1, k2, hv⟩ := wiK_inv h
  obtain ⟨_, _, hl, ha⟩ := vcB_inv hv
  refine vec_part (by rw [Int.toNat_natCast, msN_length]; omega) fun x hx => ?_
  simp only [msN, tab, List.mem_map] at hx
  obtain ⟨i, _, rfl⟩ := hx
  exact lim_bd _
theorem ms_len (sh da : List Int) (n : Int) : (msS sh da n).length ≤ 1 ∧ (msD sh da n).length ≤ 60 := by
  unfold msS msD
  cases h : wiK sh da n with
  | false => simp
  | true =>
    have := (vecOk_inv (ms_vec h)).1
    simpa using this
theorem nb_vec {op : Int} {sh da : List Int} (h : nbB op sh da = true) : vecOk (nbN op da) = true := by
  simp only [nbB, Bool.and_eq_true, decide_eq_true_eq] at h
  obtain ⟨_, _, hl, ha⟩ := vcB_inv h.1.2
  refine vec_part (by rw [nbN_length]; omega) fun x hx => ?_
  simp only [nbN, tab, List.mem_map] at hx
  obtain ⟨i, _, rfl⟩ := hx
  have hg : ∀ i, numB (da.getD i 0) = true := fun i => numB_of (getD_all (P := fun x => -1000000 ≤ x ∧ x ≤ 1000000) (by omega) (allB_iff.1 ha) i)
  exact operF_bd h.1.1 (hg _) (hg _)
theorem nb_len (op : Int) (sh da : List Int) : (nbS op sh da).length ≤ 1 ∧ (nbD op sh da).length ≤ 60 := by
  unfold nbS nbD
  cases h : nbB op sh da with
  | false => simp
  | true =>
    have := (vecOk_inv (nb_vec h)).1
    simpa using this
end Go.Ab
namespace Go.Ab
theorem gEd {xs : List Int} {j : Nat} (h : j < xs.length) : xs[j] = xs.getD j 0 := by simp [h]
theorem dg_sq {n : Nat} {sh da : List Int} (hn : n ≤ 4) (hl : da.length = n * n) (hv : validA sh da = true) (hsh : sh = [(n : Int), (n : Int)]) : dgD sh da = tab n fun i => da.getD (i * (n + 1)) 0 := by
  subst hsh
  have hb : dgB [(n : Int), (n : Int)] da = true := by simp [dgB, hv]
  simp only [dgD, hb, cond_true, dgN]
  have e1 : minL [(n : Int), (n : Int)] = (n : Int) := by simp [minL, minI]
  have e2 : stpN [(n : Int), (n : Int)] [(n : Int), (n : Int)].length = n + 1 := by
    have : ∀ i : Fin 5, stpN [(i.1 : Int), (i.1 : Int)] 2 = i.1 + 1 := by decide +kernel
    exact this ⟨n, by omega⟩
  rw [e1, e2]
  rfl
end Go.Ab
namespace Go.Ab
theorem inB_sq {n : Nat} {x da : List Int} (hn : n ≤ 4) (hx : validA [(n : Int), (n : Int)] x = true) (hd : validA [(n : Int), (n : Int)] da = true) : inB 1 3 [(n : Int), (n : Int)] x [(n : Int), (n : Int)] da = true := by
  obtain ⟨v1, v2⟩ := vol_sq hn
  have e : inSh [(n : Int), (n : Int)] [(n : Int), (n : Int)] = [(n : Int), (n : Int)] := rfl
  have a1 : axB [(n : Int), (n : Int)] x (inK [(n : Int), (n : Int)]) = true := by simp [axB, hx, inK, axOk]
  have a2 : axB [(n : Int), (n : Int)] da 0 = true := by simp [axB, hd, axOk]
  simp only [inB, e, v1, a1, a2]
  simp [opOk, lenN]
theorem pow_facts {k : Nat} {sh da : List Int} (hk : k ≤ 4) (hl : da.length = k * k) (hv : validA sh da = true) (hsh : sh = [(k : Int), (k : Int)]) (j : Nat) :
    (validA sh (powL sh da j) = true ∧ sh.length = 2 ∧ da.length ≤ 60 ∧ (powL sh da j).length ≤ 60) ∧ inS 1 3 sh (powL sh da j) sh da = sh ∧ inD 1 3 sh (powL sh da j) sh da = powL sh da (j + 1) := by
  subst hsh
  have h4 := sq4 hk
  have hvp : ∀ j, validA [(k : Int), (k : Int)] (powL [(k : Int), (k : Int)] da j) = true := by
    intro j
    induction j with
    | zero => exact id_valid hk
    | succ j ih => exact in_valid (inB_sq hk ih hv)
  have hb := inB_sq hk (hvp j) hv
  refine ⟨⟨hvp j, rfl, by omega, (validA_len (hvp j)).2⟩, ?_, ?_⟩
  · simp only [inS, hb, cond_true]; rfl
  · simp only [inD, hb, cond_true]; rfl
end Go.Ab
namespace Go.Ab
/-- Slices of integers, as data. -/
def dL (xss : List (List Int)) : List D := xss.map (D.ints .i64)
theorem dL_length (xss : List (List Int)) : (dL xss).length = xss.length := by simp [dL]
theorem getI_dL (xss : List (List Int)) (i : Nat) : getI .i64 (dL xss) i = xss[i]? := by
  unfold getI dL
  rw [List.getElem?_map]
  cases xss[i]? <;> simp [seeI]
def partX (xss : List (List Int)) (j : Nat) : List D := dL (xss.take j ++ List.replicate (xss.length - j) [])
theorem partX_length {xss : List (List Int)} {j : Nat} (h : j ≤ xss.length) : (partX xss j).length = xss.length := by
  simp [partX, dL]; omega
theorem partX_zero (xss : List (List Int)) : partX xss 0 = List.replicate xss.length (D.ints .i64 []) := by
  simp [partX, dL]
theorem partX_all (xss : List (List Int)) : partX xss xss.length = dL xss := by
  simp [partX]
theorem partX_set {xss : List (List Int)} {j : Nat} (h : j < xss.length) : (partX xss j).set j (.ints .i64 xss[j]) = partX xss (j + 1) := by
  have e : xss.length - j = (xss.length - (j + 1)) + 1 := by omega
  have hl : (xss.take j).length = j := by simp; omega
  unfold partX dL
  rw [e, List.replicate_succ, List.map_append, List.map_cons]
  have e1 : ¬ j < ((xss.take j).map (D.ints .i64)).length := by simp; omega
  have e2 : j - ((xss.take j).map (D.ints .i64)).length = 0 := by simp; omega
  rw [List.set_append, if_neg e1, e2, List.set_cons_zero, List.take_add_one, List.getElem?_eq_getElem h, List.map_append, List.map_append, List.append_assoc]
  rfl
def wiL (da : List Int) (n : Nat) : List (List Int) := (List.range (da.length + 1 - n)).map (wpL da n)
theorem wiL_length (da : List Int) (n : Nat) : (wiL da n).length = da.length + 1 - n := by simp [wiL]
theorem wiL_get {da : List Int} {n j : Nat} (h : j < (wiL da n).length) : (wiL da n)[j] = wpL da n j := by simp [wiL]
theorem wiL_get' {da : List Int} {n j : Nat} (h : j < da.length + 1 - n) : (wiL da n)[j]? = some (wpL da n j) := by
  rw [List.getElem?_eq_getElem (by rw [wiL_length]; exact h), wiL_get]
theorem wiX_set {da : List Int} {n j : Nat} (h : j < da.length + 1 - n) : (partX (wiL da n) j).set j (.ints .i64 (wpL da n j)) = partX (wiL da n) (j + 1) := by
  have h' : j < (wiL da n).length := by rw [wiL_length]; exact h
  rw [← partX_set h', wiL_get]
/-- One more than the number of windows, as it is computed. -/
theorem wiC {L k : Nat} (h1 : k ≤ L + 1) (hL : L ≤ 60) : IntKind.wrap .i64 (IntKind.wrap .i64 (((L : Nat) : Int) + 1) - (k : Int)) = ((L + 1 - k : Nat) : Int) := by
  rw [w1 (by omega), wS (by omega) (by omega)]; omega
end Go.Ab
namespace Go.Ab
theorem poOk_inv {sh da : List Int} {n : Int} (h : poOk sh da n = true) : ∃ (p k : Nat), n = p ∧ p ≤ 5 ∧ k ≤ 4 ∧ sh = [(k : Int), (k : Int)] ∧ da.length = k * k ∧ validA sh da = true ∧ sqB sh da = true ∧ validA sh (powL sh da p) = true := by
  simp only [poOk, Bool.and_eq_true, decide_eq_true_eq] at h
  obtain ⟨k, hk, hsh, hl, hv, ha⟩ := sqB_inv h.1
  exact ⟨n.toNat, k, by omega, by omega, hk, hsh, hl, hv, h.1, (pow_facts hk hl hv hsh _).1.1⟩
theorem pp_len (sh da : List Int) (n : Int) : (pwS sh da n).length ≤ 3 ∧ (ppD sh da n).length ≤ 60 := by
  unfold pwS ppD
  cases h : poOk sh da n with
  | false => simp
  | true =>
    obtain ⟨p, k, rfl, _, _, _, _, _, _, hv⟩ := poOk_inv h
    simpa using validA_len hv
end Go.Ab
