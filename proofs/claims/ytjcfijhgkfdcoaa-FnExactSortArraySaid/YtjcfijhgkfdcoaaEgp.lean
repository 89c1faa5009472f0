import Derived.Test.YtjcfijhgkfdcoaaEgp1
open Go Go.Ab
set_option maxRecDepth 100000
set_option linter.unusedVariables false
set_option linter.unusedSimpArgs false
namespace Go.Ab
theorem gEd {xs : List Int} {j : Nat} (h : j < xs.length) : xs[j] = xs.getD j 0 := by simp [h]
end Go.Ab
namespace Go.Ab
theorem lex_irr {da : List Int} {x : Int} : ¬ lexD da x x := by unfold lexD; omega
theorem lex_tot {da : List Int} {x y : Int} (h : x ≠ y) : lexD da x y ∨ lexD da y x := by unfold lexD; omega
theorem lex_asym {da : List Int} {x y : Int} (h : lexD da x y) : ¬ lexD da y x := by unfold lexD at *; omega
theorem lt_lex {da : List Int} {x y : Int} (h : ltD da x y = true) : lexD da x y := by
  have := of_decide_eq_true h
  exact .inl this
theorem lt_lex' {da : List Int} {x y : Int} (h : ltD da y x = false) (hxy : x < y) : lexD da x y := by
  have := of_decide_eq_false h
  unfold lexD
  omega
theorem lex_lt {da : List Int} {x y : Int} (h : lexD da x y) : ltD da y x = false := decide_eq_false (by unfold lexD at h; omega)
/-- At most, by value and then by place. -/
def leX (lt : Int → Int → Bool) (x y : Int) : Bool := !(lt y x || (!lt x y && decide (y < x)))
theorem leX_iff {da : List Int} {x y : Int} : leX (ltD da) x y = true ↔ ¬ lexD da y x := by
  unfold leX lexD ltD
  by_cases h1 : da.getD y.toNat 0 < da.getD x.toNat 0 <;> by_cases h2 : da.getD x.toNat 0 < da.getD y.toNat 0 <;> by_cases h3 : y < x <;> simp [h1, h2, h3] <;> omega
def srtX (lt : Int → Int → Bool) (xs : List Int) : List Int := xs.mergeSort (leX lt)
theorem srtX_perm (lt : Int → Int → Bool) (xs : List Int) : (srtX lt xs).Perm xs := List.mergeSort_perm _ _
theorem srtX_len (lt : Int → Int → Bool) (xs : List Int) : (srtX lt xs).length = xs.length := (srtX_perm lt xs).length_eq
theorem srtX_le (da xs : List Int) : (srtX (ltD da) xs).Pairwise fun x y => leX (ltD da) x y = true := by
  refine List.pairwise_mergeSort (fun a b c h1 h2 => ?_) (fun a b => ?_) xs
  · rw [leX_iff] at *
    unfold lexD at *
    omega
  · rw [Bool.or_eq_true, leX_iff, leX_iff]
    unfold lexD
    omega
theorem srtX_of {da xs ys : List Int} (hp : ys.Perm xs) (hs : ys.Pairwise (lexD da)) : srtX (ltD da) xs = ys :=
  List.Perm.eq_of_pairwise (le := fun x y => leX (ltD da) x y = true) (fun a b _ _ h1 h2 => by
    rw [leX_iff] at h1 h2
    by_cases h : a = b
    · exact h
    · rcases lex_tot (da := da) h with h3 | h3
      · exact absurd h3 h2
      · exact absurd h3 h1) (srtX_le da xs) (hs.imp fun h => leX_iff.2 (lex_asym h)) ((srtX_perm _ xs).trans hp.symm)
def segL (a b : Nat) (xs : List Int) : List Int := (xs.drop a).take (b - a)
def segS (lt : Int → Int → Bool) (a b : Nat) (xs : List Int) : List Int := xs.take a ++ (srtX lt (segL a b xs) ++ xs.drop b)
theorem seg_len {a b : Nat} {xs : List Int} (h : b ≤ xs.length) : (segL a b xs).length = b - a := by simp [segL]; omega
theorem seg_split {a b : Nat} {xs : List Int} (h1 : a ≤ b) : xs = xs.take a ++ (segL a b xs ++ xs.drop b) := by
  unfold segL
  have e : xs.drop b = (xs.drop a).drop (b - a) := by rw [List.drop_drop]; congr 1; omega
  rw [e, List.take_append_drop, List.take_append_drop]
theorem segS_len {lt : Int → Int → Bool} {a b : Nat} {xs : List Int} (h1 : a ≤ b) (h2 : b ≤ xs.length) : (segS lt a b xs).length = xs.length := by
  simp only [segS, List.length_append, srtX_len, seg_len h2, List.length_take, List.length_drop]; omega
theorem segS_perm {lt : Int → Int → Bool} {a b : Nat} {xs : List Int} (h1 : a ≤ b) : (segS lt a b xs).Perm xs := by
  conv => rhs; rw [seg_split (xs := xs) h1]
  exact List.Perm.append_left _ (List.Perm.append_right _ (srtX_perm _ _))
theorem gD_app {A B : List Int} {k : Nat} : (A ++ B).getD k 0 = if k < A.length then A.getD k 0 else B.getD (k - A.length) 0 := by
  by_cases h : k < A.length
  · rw [if_pos h]; simp [List.getD, List.getElem?_append_left h]
  · rw [if_neg h]; simp [List.getD, List.getElem?_append_right (Nat.le_of_not_lt h)]
theorem gD_drop {A : List Int} {n k : Nat} : (A.drop n).getD k 0 = A.getD (n + k) 0 := by simp [List.getD]
theorem gD_take {A : List Int} {n k : Nat} (h : k < n) : (A.take n).getD k 0 = A.getD k 0 := by simp [List.getD, List.getElem?_take, h]
theorem seg_get {a b k : Nat} {xs : List Int} (h : k < b - a) : (segL a b xs).getD k 0 = xs.getD (a + k) 0 := by
  unfold segL
  rw [gD_take h, gD_drop]
theorem segS_lo {lt : Int → Int → Bool} {a b k : Nat} {xs : List Int} (h1 : a ≤ b) (h2 : b ≤ xs.length) (hk : k < a) : (segS lt a b xs).getD k 0 = xs.getD k 0 := by
  unfold segS
  rw [gD_app, if_pos (by rw [take_len (by omega)]; exact hk), gD_take hk]
theorem segS_hi {lt : Int → Int → Bool} {a b k : Nat} {xs : List Int} (h1 : a ≤ b) (h2 : b ≤ xs.length) (hk : b ≤ k) : (segS lt a b xs).getD k 0 = xs.getD k 0 := by
  unfold segS
  rw [gD_app, take_len (by omega), if_neg (by omega), gD_app, srtX_len, seg_len h2, if_neg (by omega), gD_drop]
  congr 1
  omega
theorem segS_mid {lt : Int → Int → Bool} {a b k : Nat} {xs : List Int} (h1 : a ≤ b) (h2 : b ≤ xs.length) (hk : k < b - a) : (segS lt a b xs).getD (a + k) 0 = (srtX lt (segL a b xs)).getD k 0 := by
  unfold segS
  rw [gD_app, take_len (by omega), if_neg (by omega), gD_app, srtX_len, seg_len h2, if_pos (by omega)]
  congr 1
  omega
/-- What lies in a sorted part lay there before. -/
theorem segS_mem {lt : Int → Int → Bool} {a b k : Nat} {xs : List Int} (h1 : a ≤ b) (h2 : b ≤ xs.length) (hk : a ≤ k) (hk2 : k < b) : ∃ q, a ≤ q ∧ q < b ∧ (segS lt a b xs).getD k 0 = xs.getD q 0 := by
  have e : k = a + (k - a) := by omega
  rw [e, segS_mid h1 h2 (by omega)]
  have hl : k - a < (srtX lt (segL a b xs)).length := by rw [srtX_len, seg_len h2]; omega
  have hm : (srtX lt (segL a b xs)).getD (k - a) 0 ∈ segL a b xs := (srtX_perm lt _).mem_iff.1 (mem_getD hl)
  obtain ⟨q, hq, he⟩ := List.getElem_of_mem hm
  rw [seg_len h2] at hq
  refine ⟨a + q, by omega, by omega, ?_⟩
  rw [← seg_get hq, ← he, gEd]
theorem pair_of {R : Int → Int → Prop} {xs : List Int} (h : ∀ i j, i < j → j < xs.length → R (xs.getD i 0) (xs.getD j 0)) : xs.Pairwise R := by
  rw [List.pairwise_iff_getElem]
  intro i j hi hj hij
  have := h i j hij hj
  rw [← gEd hi, ← gEd hj] at this
  exact this
/-- Sorted parts of rows whose places are different. -/
theorem segS_lex {da : List Int} {a b : Nat} {xs : List Int} (h1 : a ≤ b) (h2 : b ≤ xs.length) (hd : ∀ i j, a ≤ i → i < j → j < b → xs.getD i 0 ≠ xs.getD j 0) : ∀ i j, a ≤ i → i < j → j < b → lexD da ((segS (ltD da) a b xs).getD i 0) ((segS (ltD da) a b xs).getD j 0) := by
  have hnd : (segL a b xs).Nodup := pair_of fun i j hij hj => by
    rw [seg_len h2] at hj
    rw [seg_get (by omega), seg_get (by omega)]
    exact hd _ _ (by omega) (by omega) (by omega)
  have hnd2 : (srtX (ltD da) (segL a b xs)).Nodup := (srtX_perm _ _).nodup_iff.2 hnd
  intro i j hi hij hj
  have ei : i = a + (i - a) := by omega
  have ej : j = a + (j - a) := by omega
  rw [ei, ej, segS_mid h1 h2 (by omega), segS_mid h1 h2 (by omega)]
  have hjl : j - a < (srtX (ltD da) (segL a b xs)).length := by rw [srtX_len, seg_len h2]; omega
  have g1 := pair_get (srtX_le da (segL a b xs)) (i := i - a) (j := j - a) (by omega) hjl
  have g2 : (srtX (ltD da) (segL a b xs)).getD (i - a) 0 ≠ (srtX (ltD da) (segL a b xs)).getD (j - a) 0 := pair_get (R := (· ≠ ·)) hnd2 (by omega) hjl
  rw [leX_iff] at g1
  rcases lex_tot (da := da) g2 with h | h
  · exact h
  · exact absurd h g1
theorem gD_ext {xs ys : List Int} (hl : xs.length = ys.length) (h : ∀ k, k < xs.length → xs.getD k 0 = ys.getD k 0) : xs = ys := by
  refine List.ext_getElem hl fun k h1 h2 => ?_
  rw [gEd h1, gEd h2]
  exact h k h1
/-- A row whose part is the sorted part of another. -/
theorem segS_of {da : List Int} {a b : Nat} {xs zs : List Int} (h1 : a ≤ b) (h2 : b ≤ xs.length) (hp : zs.Perm xs) (hlo : ∀ k, k < a → zs.getD k 0 = xs.getD k 0) (hhi : ∀ k, b ≤ k → zs.getD k 0 = xs.getD k 0)
    (hs : ∀ i j, a ≤ i → i < j → j < b → lexD da (zs.getD i 0) (zs.getD j 0)) : zs = segS (ltD da) a b xs := by
  have hl := hp.length_eq
  have e1 : zs.take a = xs.take a := gD_ext (by simp [hl]) fun k hk => by
    rw [take_len (by omega)] at hk
    rw [gD_take hk, gD_take hk]
    exact hlo k hk
  have e2 : zs.drop b = xs.drop b := gD_ext (by simp [hl]) fun k hk => by
    rw [gD_drop, gD_drop]
    exact hhi _ (by omega)
  have hseg : (segL a b zs).Perm (segL a b xs) := by
    have p := hp
    rw [seg_split (xs := zs) h1, seg_split (xs := xs) h1, e1, e2] at p
    exact (List.perm_append_right_iff _).1 ((List.perm_append_left_iff _).1 p)
  have hsl : (segL a b zs).Pairwise (lexD da) := pair_of fun i j hij hj => by
    rw [seg_len (by omega)] at hj
    rw [seg_get (by omega), seg_get (by omega)]
    exact hs _ _ (by omega) (by omega) (by omega)
  have := srtX_of hseg hsl
  unfold segS
  rw [this, ← e1, ← e2]
  exact seg_split h1
end Go.Ab
namespace Go.Ab
/-- Two numbers change places. -/
def swp (xs : List Int) (i j : Nat) : List Int := (xs.set i (xs.getD j 0)).set j (xs.getD i 0)
theorem swp_len (xs : List Int) (i j : Nat) : (swp xs i j).length = xs.length := by simp [swp]
theorem gD_set {xs : List Int} {i k : Nat} {v : Int} (hi : i < xs.length) : (xs.set i v).getD k 0 = if k = i then v else xs.getD k 0 := by
  by_cases h : k = i
  · subst h; rw [if_pos rfl]; simp [hi]
  · rw [if_neg h]; simp [List.getD, List.getElem?_set_ne (Ne.symm h)]
theorem swp_get {xs : List Int} {i j k : Nat} (hi : i < xs.length) (hj : j < xs.length) : (swp xs i j).getD k 0 = if k = j then xs.getD i 0 else if k = i then xs.getD j 0 else xs.getD k 0 := by
  unfold swp
  rw [gD_set (by simpa using hj), gD_set hi]
theorem swp_perm {xs : List Int} {i j : Nat} (hi : i < xs.length) (hj : j < xs.length) : (swp xs i j).Perm xs := by
  unfold swp
  have := List.set_set_perm (as := xs) (i := i) (j := j) hi hj
  rw [gEd hi, gEd hj] at this
  exact this
/-- Two ranges change places. -/
def swR (a b n : Nat) (xs : List Int) : List Int := match n with
  | 0 => xs
  | n + 1 => swp (swR a b n xs) (a + n) (b + n)
theorem swR_len (a b : Nat) : ∀ n xs, (swR a b n xs).length = xs.length
  | 0, _ => rfl
  | n + 1, xs => by simp only [swR]; rw [swp_len, swR_len]
theorem swR_perm (a b : Nat) : ∀ n xs, a + n ≤ xs.length → b + n ≤ xs.length → (swR a b n xs).Perm xs
  | 0, _, _, _ => List.Perm.refl _
  | n + 1, xs, h1, h2 => by
    simp only [swR]
    exact (swp_perm (by rw [swR_len]; omega) (by rw [swR_len]; omega)).trans (swR_perm a b n xs (by omega) (by omega))
theorem swR_get {a b : Nat} : ∀ {n k : Nat} {xs : List Int}, a + n ≤ b → b + n ≤ xs.length → (swR a b n xs).getD k 0 = if a ≤ k ∧ k < a + n then xs.getD (b + (k - a)) 0 else if b ≤ k ∧ k < b + n then xs.getD (a + (k - b)) 0 else xs.getD k 0
  | 0, k, xs, _, _ => by
    rw [if_neg (by omega), if_neg (by omega)]; rfl
  | n + 1, k, xs, h1, h2 => by
    simp only [swR]
    have ih := fun k => swR_get (a := a) (b := b) (n := n) (k := k) (xs := xs) (by omega) (by omega)
    rw [swp_get (by rw [swR_len]; omega) (by rw [swR_len]; omega), ih, ih, ih]
    rw [if_neg (c := a ≤ a + n ∧ a + n < a + n) (by omega), if_neg (c := b ≤ a + n ∧ a + n < b + n) (by omega), if_neg (c := a ≤ b + n ∧ b + n < a + n) (by omega), if_neg (c := b ≤ b + n ∧ b + n < b + n) (by omega)]
    by_cases e1 : k = b + n
    · subst e1
      rw [if_pos rfl, if_neg (by omega), if_pos (by omega)]
      congr 1; omega
    · rw [if_neg e1]
      by_cases e2 : k = a + n
      · subst e2
        rw [if_pos rfl, if_pos (by omega)]
        congr 1; omega
      · rw [if_neg e2]
        by_cases c1 : a ≤ k ∧ k < a + n
        · rw [if_pos c1, if_pos (by omega)]
        · rw [if_neg c1, if_neg (c := a ≤ k ∧ k < a + (n + 1)) (by omega)]
          by_cases c2 : b ≤ k ∧ k < b + n
          · rw [if_pos c2, if_pos (by omega)]
          · rw [if_neg c2, if_neg (by omega)]
/-- Two neighbouring parts change places. -/
def rotM (s m e : Nat) (xs : List Int) : List Int := xs.take s ++ (segL m e xs ++ (segL s m xs ++ xs.drop e))
theorem rotM_len {s m e : Nat} {xs : List Int} (h1 : s ≤ m) (h2 : m ≤ e) (h3 : e ≤ xs.length) : (rotM s m e xs).length = xs.length := by
  simp only [rotM, List.length_append, seg_len h3, seg_len (show m ≤ xs.length by omega), List.length_take, List.length_drop]; omega
theorem rotM_get {s m e k : Nat} {xs : List Int} (h1 : s ≤ m) (h2 : m ≤ e) (h3 : e ≤ xs.length) : (rotM s m e xs).getD k 0 = if s ≤ k ∧ k < s + (e - m) then xs.getD (m + (k - s)) 0 else if s + (e - m) ≤ k ∧ k < e then xs.getD (s + (k - (s + (e - m)))) 0 else xs.getD k 0 := by
  unfold rotM
  rw [gD_app, take_len (by omega), gD_app, seg_len h3, gD_app, seg_len (show m ≤ xs.length by omega)]
  by_cases c0 : k < s
  · rw [if_pos c0, if_neg (by omega), if_neg (by omega), gD_take c0]
  rw [if_neg c0]
  by_cases c1 : k - s < e - m
  · rw [if_pos c1, if_pos (by omega), seg_get c1]
  rw [if_neg c1, if_neg (c := s ≤ k ∧ k < s + (e - m)) (by omega)]
  by_cases c2 : k - s - (e - m) < m - s
  · rw [if_pos c2, if_pos (by omega), seg_get c2]
    congr 1; omega
  · rw [if_neg c2, if_neg (by omega), gD_drop]
    congr 1; omega
theorem rotM_perm {s m e : Nat} {xs : List Int} (h1 : s ≤ m) (h2 : m ≤ e) : (rotM s m e xs).Perm xs := by
  have e1 : xs.drop s = segL s m xs ++ (segL m e xs ++ xs.drop e) := by
    unfold segL
    have a1 : xs.drop e = (xs.drop m).drop (e - m) := by rw [List.drop_drop]; congr 1; omega
    have a2 : xs.drop m = (xs.drop s).drop (m - s) := by rw [List.drop_drop]; congr 1; omega
    rw [a1, List.take_append_drop, a2, List.take_append_drop]
  conv => rhs; rw [← List.take_append_drop s xs, e1]
  unfold rotM
  refine List.Perm.append_left _ ?_
  rw [← List.append_assoc, ← List.append_assoc]
  exact List.Perm.append_right _ List.perm_append_comm
/-- The steps of a rotation by swapped ranges. -/
theorem rotM_gt {m i j : Nat} {xs : List Int} (hi : i ≤ m) (hij : j < i) (h : m + j ≤ xs.length) : rotM (m - i) m (m + j) xs = rotM (m - (i - j)) m (m + j) (swR (m - i) m j xs) := by
  refine gD_ext (by rw [rotM_len (by omega) (by omega) h, rotM_len (by omega) (by omega) (by rw [swR_len]; exact h), swR_len]) fun k hk => ?_
  rw [rotM_get (by omega) (by omega) h, rotM_get (by omega) (by omega) (by rw [swR_len]; exact h), swR_get (by omega) h, swR_get (by omega) h, swR_get (by omega) h]
  by_cases c1 : m - i ≤ k ∧ k < m - i + j
  · rw [if_pos (by omega), if_neg (c := m - (i - j) ≤ k ∧ k < m - (i - j) + (m + j - m)) (by omega), if_neg (c := m - (i - j) + (m + j - m) ≤ k ∧ k < m + j) (by omega), if_pos c1]
  by_cases c2 : m - (i - j) ≤ k ∧ k < m - (i - j) + (m + j - m)
  · rw [if_neg (by omega), if_pos (by omega), if_pos c2, if_neg (by omega), if_pos (by omega)]
    congr 1; omega
  by_cases c3 : m - (i - j) + (m + j - m) ≤ k ∧ k < m + j
  · rw [if_neg (by omega), if_pos (by omega), if_neg c2, if_pos c3, if_neg (by omega), if_neg (by omega)]
    congr 1; omega
  · rw [if_neg (by omega), if_neg (by omega), if_neg c2, if_neg c3, if_neg (by omega), if_neg (by omega)]
theorem rotM_lt {m i j : Nat} {xs : List Int} (hi : i ≤ m) (hij : i < j) (h : m + j ≤ xs.length) : rotM (m - i) m (m + j) xs = rotM (m - i) m (m + (j - i)) (swR (m - i) (m + j - i) i xs) := by
  refine gD_ext (by rw [rotM_len (by omega) (by omega) h, rotM_len (by omega) (by omega) (by rw [swR_len]; omega), swR_len]) fun k hk => ?_
  rw [rotM_get (by omega) (by omega) h, rotM_get (by omega) (by omega) (by rw [swR_len]; omega), swR_get (by omega) (by omega), swR_get (by omega) (by omega), swR_get (by omega) (by omega)]
  by_cases c1 : m - i ≤ k ∧ k < m - i + (m + (j - i) - m)
  · rw [if_pos (by omega), if_pos c1, if_neg (by omega), if_neg (by omega)]
  by_cases c2 : m - i + (m + (j - i) - m) ≤ k ∧ k < m + (j - i)
  · rw [if_neg c1, if_pos c2, if_pos (by omega), if_pos (by omega)]
    congr 1; omega
  by_cases c3 : m + (j - i) ≤ k ∧ k < m + j
  · rw [if_neg (by omega), if_pos (by omega), if_neg c1, if_neg c2, if_neg (by omega), if_pos (by omega)]
    congr 1; omega
  · rw [if_neg (by omega), if_neg (by omega), if_neg c1, if_neg c2, if_neg (by omega), if_neg (by omega)]
theorem rotM_eq {m i : Nat} {xs : List Int} (hi : i ≤ m) (h : m + i ≤ xs.length) : rotM (m - i) m (m + i) xs = swR (m - i) m i xs := by
  refine gD_ext (by rw [rotM_len (by omega) (by omega) h, swR_len]) fun k hk => ?_
  rw [rotM_get (by omega) (by omega) h, swR_get (by omega) h]
  by_cases c1 : m - i ≤ k ∧ k < m - i + i
  · rw [if_pos (by omega), if_pos c1]
  rw [if_neg (by omega), if_neg c1]
  by_cases c2 : m ≤ k ∧ k < m + i
  · rw [if_pos (by omega), if_pos c2]
    congr 1; omega
  · rw [if_neg (by omega), if_neg c2]
end Go.Ab
namespace Go.Ab
/-- Two sorted parts side by side; what is in the left one stood ahead. -/
structure MG (da : List Int) (a m b : Nat) (xs : List Int) : Prop where
  am : a ≤ m
  mb : m ≤ b
  bl : b ≤ xs.length
  sl : ∀ i j, a ≤ i → i < j → j < m → lexD da (xs.getD i 0) (xs.getD j 0)
  sr : ∀ i j, m ≤ i → i < j → j < b → lexD da (xs.getD i 0) (xs.getD j 0)
  lr : ∀ i j, a ≤ i → i < m → m ≤ j → j < b → xs.getD i 0 < xs.getD j 0
theorem lex_ne {da : List Int} {x y : Int} (h : lexD da x y) : x ≠ y := fun e => lex_irr (e ▸ h)
theorem MG.ne {da : List Int} {a m b : Nat} {xs : List Int} (h : MG da a m b xs) : ∀ i j, a ≤ i → i < j → j < b → xs.getD i 0 ≠ xs.getD j 0 := fun i j h1 h2 h3 => by
  by_cases c1 : j < m
  · exact lex_ne (h.sl i j h1 h2 c1)
  by_cases c2 : m ≤ i
  · exact lex_ne (h.sr i j c2 h2 h3)
  · have := h.lr i j h1 (by omega) (by omega) h3
    omega
theorem segS_self {da : List Int} {a b : Nat} {xs : List Int} (h1 : a ≤ b) (h2 : b ≤ xs.length) (hs : ∀ i j, a ≤ i → i < j → j < b → lexD da (xs.getD i 0) (xs.getD j 0)) : segS (ltD da) a b xs = xs :=
  (segS_of h1 h2 (List.Perm.refl _) (fun _ _ => rfl) (fun _ _ => rfl) hs).symm
theorem rotM_self {s m e : Nat} {xs : List Int} (h1 : s ≤ m) (h2 : m ≤ e) (h3 : e ≤ xs.length) (h : s = m ∨ e = m) : rotM s m e xs = xs := by
  refine gD_ext (rotM_len h1 h2 h3) fun k hk => ?_
  rw [rotM_get h1 h2 h3]
  by_cases c1 : s ≤ k ∧ k < s + (e - m)
  · rw [if_pos c1]; congr 1; omega
  rw [if_neg c1]
  by_cases c2 : s + (e - m) ≤ k ∧ k < e
  · rw [if_pos c2]; congr 1; omega
  · rw [if_neg c2]
/-- What a rotation shows, part by part. -/
theorem rot_parts {a m b s q e : Nat} {xs : List Int} (hs : a ≤ s) (hsm : s ≤ m) (hsq : s ≤ q) (he : e + s = q + m) (heb : e ≤ b) (hb : b ≤ xs.length) :
    (∀ k, k < s → (rotM s m e xs).getD k 0 = xs.getD k 0) ∧ (∀ k, s ≤ k → k < q → (rotM s m e xs).getD k 0 = xs.getD (m + (k - s)) 0) ∧
    (∀ k, q ≤ k → k < e → (rotM s m e xs).getD k 0 = xs.getD (s + (k - q)) 0) ∧ (∀ k, e ≤ k → (rotM s m e xs).getD k 0 = xs.getD k 0) := by
  have h1 : s ≤ m := hsm
  have h2 : m ≤ e := by omega
  have h3 : e ≤ xs.length := by omega
  refine ⟨fun k hk => ?_, fun k k1 k2 => ?_, fun k k1 k2 => ?_, fun k hk => ?_⟩
  · rw [rotM_get h1 h2 h3, if_neg (by omega), if_neg (by omega)]
  · rw [rotM_get h1 h2 h3, if_pos (by omega)]
  · rw [rotM_get h1 h2 h3, if_neg (by omega), if_pos (by omega)]
    congr 1; omega
  · rw [rotM_get h1 h2 h3, if_neg (by omega), if_neg (by omega)]
theorem lex_le_trans {da : List Int} {x y z : Int} (h1 : x = y ∨ lexD da x y) (h2 : lexD da y z) : lexD da x z := by
  rcases h1 with rfl | h1
  · exact h2
  · exact lex_trans h1 h2
theorem lex_trans_le {da : List Int} {x y z : Int} (h1 : lexD da x y) (h2 : y = z ∨ lexD da y z) : lexD da x z := by
  rcases h2 with rfl | h2
  · exact h1
  · exact lex_trans h1 h2
theorem sorted_le {da xs : List Int} {a b : Nat} (h : ∀ i j, a ≤ i → i < j → j < b → lexD da (xs.getD i 0) (xs.getD j 0)) {i j : Nat} (hi : a ≤ i) (hij : i ≤ j) (hj : j < b) : xs.getD i 0 = xs.getD j 0 ∨ lexD da (xs.getD i 0) (xs.getD j 0) := by
  by_cases e : i = j
  · subst e; exact .inl rfl
  · exact .inr (h i j hi (by omega) hj)
/-- Merging by halves: the left half, the right half, and the whole. -/
theorem mg_join {da : List Int} {a m b s q e : Nat} {xs : List Int} (h : MG da a m b xs) (hs : a ≤ s) (hsm : s ≤ m) (hsq : s ≤ q) (he : e + s = q + m) (heb : e ≤ b) (haq : a ≤ q) (hqb : q ≤ b)
    (c1 : s = a ∨ e = b ∨ lexD da (xs.getD (s - 1) 0) (xs.getD e 0)) (c2 : s = m ∨ e = m ∨ lexD da (xs.getD (e - 1) 0) (xs.getD s 0)) :
    MG da a s q (rotM s m e xs) ∧ MG da q e b (segS (ltD da) a q (rotM s m e xs)) ∧ segS (ltD da) q b (segS (ltD da) a q (rotM s m e xs)) = segS (ltD da) a b xs := by
  have hb := h.bl
  have hqe : q ≤ e := by omega
  have hme : m ≤ e := by omega
  obtain ⟨p1, p2, p3, p4⟩ := rot_parts hs hsm hsq he heb hb
  have hyl : (rotM s m e xs).length = xs.length := rotM_len hsm hme (by omega)
  have hyp : (rotM s m e xs).Perm xs := rotM_perm hsm hme
  obtain ⟨Y, hY⟩ : ∃ Y, rotM s m e xs = Y := ⟨_, rfl⟩
  rw [hY] at p1 p2 p3 p4 hyl hyp ⊢
  have hYb : b ≤ Y.length := by omega
  have m1 : MG da a s q Y := by
    refine ⟨hs, hsq, by omega, fun i j i1 i2 i3 => ?_, fun i j i1 i2 i3 => ?_, fun i j i1 i2 i3 i4 => ?_⟩
    · rw [p1 i (by omega), p1 j i3]; exact h.sl i j i1 i2 (by omega)
    · rw [p2 i i1 (by omega), p2 j (by omega) i3]; exact h.sr _ _ (by omega) (by omega) (by omega)
    · rw [p1 i i2, p2 j i3 i4]; exact h.lr _ _ i1 (by omega) (by omega) (by omega)
  have hlo : ∀ k, k < a → (segS (ltD da) a q Y).getD k 0 = Y.getD k 0 := fun k hk => segS_lo haq (by omega) hk
  have hhi : ∀ k, q ≤ k → (segS (ltD da) a q Y).getD k 0 = Y.getD k 0 := fun k hk => segS_hi haq (by omega) hk
  have hzl : (segS (ltD da) a q Y).length = Y.length := segS_len haq (by omega)
  have hzp : (segS (ltD da) a q Y).Perm Y := segS_perm haq
  have hzs := segS_lex (da := da) (xs := Y) haq (by omega) m1.ne
  have hzm := fun k (h1 : a ≤ k) (h2 : k < q) => segS_mem (lt := ltD da) (xs := Y) haq (by omega) h1 h2
  obtain ⟨Z, hZ⟩ : ∃ Z, segS (ltD da) a q Y = Z := ⟨_, rfl⟩
  rw [hZ] at hlo hhi hzl hzp hzs hzm ⊢
  have m2 : MG da q e b Z := by
    refine ⟨hqe, heb, by omega, fun i j i1 i2 i3 => ?_, fun i j i1 i2 i3 => ?_, fun i j i1 i2 i3 i4 => ?_⟩
    · rw [hhi i i1, hhi j (by omega), p3 i i1 (by omega), p3 j (by omega) i3]; exact h.sl _ _ (by omega) (by omega) (by omega)
    · rw [hhi i (by omega), hhi j (by omega), p4 i i1, p4 j (by omega)]; exact h.sr _ _ (by omega) (by omega) (by omega)
    · rw [hhi i i1, hhi j (by omega), p3 i i1 i2, p4 j i3]; exact h.lr _ _ (by omega) (by omega) (by omega) (by omega)
  -- what is in the left half comes ahead of what is in the right half
  have cross : ∀ i j, a ≤ i → i < q → q ≤ j → j < b → lexD da (Y.getD i 0) (Y.getD j 0) := fun i j i1 i2 j1 j2 => by
    by_cases ci : i < s
    · rw [p1 i ci]
      by_cases cj : j < e
      · rw [p3 j j1 cj]; exact h.sl _ _ i1 (by omega) (by omega)
      · rw [p4 j (by omega)]
        rcases c1 with c1 | c1 | c1
        · omega
        · omega
        · exact lex_trans_le (lex_le_trans (sorted_le h.sl i1 (show i ≤ s - 1 by omega) (by omega)) c1) (sorted_le h.sr (show m ≤ e by omega) (by omega) j2)
    · rw [p2 i (by omega) i2]
      by_cases cj : j < e
      · rw [p3 j j1 cj]
        rcases c2 with c2 | c2 | c2
        · omega
        · omega
        · exact lex_trans_le (lex_le_trans (sorted_le h.sr (show m ≤ m + (i - s) by omega) (show m + (i - s) ≤ e - 1 by omega) (by omega)) c2) (sorted_le h.sl (show a ≤ s by omega) (show s ≤ s + (j - q) by omega) (by omega))
      · rw [p4 j (by omega)]; exact h.sr _ _ (by omega) (by omega) j2
  refine ⟨m1, m2, ?_⟩
  have hw := segS_lex (da := da) (xs := Z) hqb (by omega) m2.ne
  have hwm := fun k (h1 : q ≤ k) (h2 : k < b) => segS_mem (lt := ltD da) (xs := Z) hqb (by omega) h1 h2
  refine segS_of (by omega) hb ((segS_perm hqb).trans (hzp.trans hyp)) (fun k hk => ?_) (fun k hk => ?_) (fun i j i1 i2 i3 => ?_)
  · rw [segS_lo hqb (by omega) (by omega), hlo k hk, p1 k (by omega)]
  · rw [segS_hi hqb (by omega) hk, hhi k (by omega), p4 k (by omega)]
  · by_cases cj : j < q
    · rw [segS_lo hqb (by omega) (by omega), segS_lo hqb (by omega) cj]
      exact hzs i j i1 i2 cj
    by_cases ci : q ≤ i
    · exact hw i j ci i2 i3
    · rw [segS_lo hqb (by omega) (by omega)]
      obtain ⟨u, u1, u2, u3⟩ := hzm i i1 (by omega)
      obtain ⟨v, v1, v2, v3⟩ := hwm j (by omega) i3
      rw [u3, v3, hhi v v1]
      exact cross u v u1 u2 v1 v2
/-- A number moves up, neighbour by neighbour. -/
def shU (a : Nat) : Nat → List Int → List Int
  | 0, xs => xs
  | n + 1, xs => swp (shU a n xs) (a + n) (a + n + 1)
theorem shU_len (a : Nat) : ∀ n xs, (shU a n xs).length = xs.length
  | 0, _ => rfl
  | n + 1, xs => by simp only [shU]; rw [swp_len, shU_len]
theorem shU_perm (a : Nat) : ∀ n xs, a + n < xs.length → (shU a n xs).Perm xs
  | 0, _, _ => List.Perm.refl _
  | n + 1, xs, h => by
    simp only [shU]
    exact (swp_perm (by rw [shU_len]; omega) (by rw [shU_len]; omega)).trans (shU_perm a n xs (by omega))
theorem shU_get {a : Nat} : ∀ {n k : Nat} {xs : List Int}, a + n < xs.length → (shU a n xs).getD k 0 = if a ≤ k ∧ k < a + n then xs.getD (k + 1) 0 else if k = a + n then xs.getD a 0 else xs.getD k 0
  | 0, k, xs, _ => by
    rw [if_neg (by omega)]
    by_cases e : k = a + 0
    · subst e; simp [shU]
    · rw [if_neg e]; rfl
  | n + 1, k, xs, h => by
    simp only [shU]
    have ih := fun k => shU_get (a := a) (n := n) (k := k) (xs := xs) (by omega)
    rw [swp_get (by rw [shU_len]; omega) (by rw [shU_len]; omega), ih, ih, ih]
    rw [if_neg (c := a ≤ a + n ∧ a + n < a + n) (by omega), if_pos (c := a + n = a + n) rfl, if_neg (c := a ≤ a + n + 1 ∧ a + n + 1 < a + n) (by omega), if_neg (c := a + n + 1 = a + n) (by omega)]
    by_cases e1 : k = a + n + 1
    · subst e1
      rw [if_pos rfl, if_neg (by omega), if_pos (by omega)]
    rw [if_neg e1]
    by_cases e2 : k = a + n
    · subst e2
      rw [if_pos rfl, if_pos (by omega)]
    rw [if_neg e2]
    by_cases c : a ≤ k ∧ k < a + n
    · rw [if_pos c, if_pos (by omega)]
    · rw [if_neg c, if_neg e2, if_neg (by omega), if_neg (by omega)]
theorem mg_left {da : List Int} {a b i : Nat} {xs : List Int} (h : MG da a (a + 1) b xs) (hi : a + 1 ≤ i) (hib : i ≤ b) (h1 : ∀ k, a + 1 ≤ k → k < i → ltD da (xs.getD k 0) (xs.getD a 0) = true) (h2 : ∀ k, i ≤ k → k < b → ltD da (xs.getD k 0) (xs.getD a 0) = false) :
    shU a (i - 1 - a) xs = segS (ltD da) a b xs := by
  have hb := h.bl
  have hg := fun k => shU_get (a := a) (n := i - 1 - a) (k := k) (xs := xs) (by omega)
  have ei : a + (i - 1 - a) = i - 1 := by omega
  rw [ei] at hg
  refine segS_of (by omega) hb (shU_perm _ _ _ (by omega)) (fun k hk => ?_) (fun k hk => ?_) (fun p r p1 p2 p3 => ?_)
  · rw [hg, if_neg (by omega), if_neg (by omega)]
  · rw [hg, if_neg (by omega), if_neg (by omega)]
  · rw [hg, hg]
    by_cases cp : a ≤ p ∧ p < i - 1
    · rw [if_pos cp]
      by_cases cr : a ≤ r ∧ r < i - 1
      · rw [if_pos cr]; exact h.sr _ _ (by omega) (by omega) (by omega)
      rw [if_neg cr]
      by_cases er : r = i - 1
      · rw [if_pos er]; exact lt_lex (h1 _ (by omega) (by omega))
      · rw [if_neg er]; exact h.sr _ _ (by omega) (by omega) p3
    rw [if_neg cp]
    by_cases ep : p = i - 1
    · rw [if_pos ep, if_neg (by omega), if_neg (by omega)]
      exact lt_lex' (h2 _ (by omega) p3) (h.lr _ _ (by omega) (by omega) (by omega) p3)
    · rw [if_neg ep, if_neg (by omega), if_neg (by omega)]
      exact h.sr _ _ (by omega) p2 p3
/-- A number moves down, neighbour by neighbour. -/
def shD (m : Nat) : Nat → List Int → List Int
  | 0, xs => xs
  | n + 1, xs => swp (shD m n xs) (m - n) (m - n - 1)
theorem shD_len (m : Nat) : ∀ n xs, (shD m n xs).length = xs.length
  | 0, _ => rfl
  | n + 1, xs => by simp only [shD]; rw [swp_len, shD_len]
theorem shD_perm (m : Nat) : ∀ n xs, n ≤ m → m < xs.length → (shD m n xs).Perm xs
  | 0, _, _, _ => List.Perm.refl _
  | n + 1, xs, h1, h2 => by
    simp only [shD]
    exact (swp_perm (by rw [shD_len]; omega) (by rw [shD_len]; omega)).trans (shD_perm m n xs (by omega) h2)
theorem shD_get {m : Nat} : ∀ {n k : Nat} {xs : List Int}, n ≤ m → m < xs.length → (shD m n xs).getD k 0 = if m - n < k ∧ k ≤ m then xs.getD (k - 1) 0 else if k = m - n then xs.getD m 0 else xs.getD k 0
  | 0, k, xs, _, _ => by
    rw [if_neg (by omega)]
    by_cases e : k = m - 0
    · subst e; simp [shD]
    · rw [if_neg e]; rfl
  | n + 1, k, xs, h1, h2 => by
    simp only [shD]
    have ih := fun k => shD_get (m := m) (n := n) (k := k) (xs := xs) (by omega) h2
    rw [swp_get (by rw [shD_len]; omega) (by rw [shD_len]; omega), ih, ih, ih]
    rw [if_neg (c := m - n < m - n ∧ m - n ≤ m) (by omega), if_pos (c := m - n = m - n) rfl, if_neg (c := m - n < m - n - 1 ∧ m - n - 1 ≤ m) (by omega), if_neg (c := m - n - 1 = m - n) (by omega)]
    by_cases e1 : k = m - n - 1
    · subst e1
      rw [if_pos rfl, if_neg (by omega), if_pos (by omega)]
    rw [if_neg e1]
    by_cases e2 : k = m - n
    · subst e2
      rw [if_pos rfl, if_pos (by omega)]
    rw [if_neg e2]
    by_cases c : m - n < k ∧ k ≤ m
    · rw [if_pos c, if_pos (by omega)]
    · rw [if_neg c, if_neg e2, if_neg (by omega), if_neg (by omega)]
theorem mg_right {da : List Int} {a m i : Nat} {xs : List Int} (h : MG da a m (m + 1) xs) (hi : a ≤ i) (him : i ≤ m) (h1 : ∀ k, a ≤ k → k < i → ltD da (xs.getD m 0) (xs.getD k 0) = false) (h2 : ∀ k, i ≤ k → k < m → ltD da (xs.getD m 0) (xs.getD k 0) = true) :
    shD m (m - i) xs = segS (ltD da) a (m + 1) xs := by
  have hb := h.bl
  have hg := fun k => shD_get (m := m) (n := m - i) (k := k) (xs := xs) (by omega) (by omega)
  have ei : m - (m - i) = i := by omega
  rw [ei] at hg
  refine segS_of (by have := h.am; omega) hb (shD_perm _ _ _ (by omega) (by omega)) (fun k hk => ?_) (fun k hk => ?_) (fun p r p1 p2 p3 => ?_)
  · rw [hg, if_neg (by omega), if_neg (by omega)]
  · rw [hg, if_neg (by omega), if_neg (by omega)]
  · rw [hg, hg]
    by_cases cp : i < p ∧ p ≤ m
    · rw [if_pos cp, if_pos (by omega)]
      exact h.sl _ _ (by omega) (by omega) (by omega)
    rw [if_neg cp]
    by_cases ep : p = i
    · rw [if_pos ep, if_pos (by omega)]
      exact lt_lex (h2 _ (by omega) (by omega))
    rw [if_neg ep]
    by_cases cr : i < r ∧ r ≤ m
    · rw [if_pos cr]; exact h.sl _ _ p1 (by omega) (by omega)
    rw [if_neg cr]
    by_cases er : r = i
    · rw [if_pos er]
      exact lt_lex' (h1 _ p1 (by omega)) (h.lr _ _ p1 (by omega) (by omega) (by omega))
    · rw [if_neg er]; exact h.sl _ _ p1 p2 (by omega)
theorem lex_val {da : List Int} {x y : Int} (h : x = y ∨ lexD da x y) : da.getD x.toNat 0 ≤ da.getD y.toNat 0 := by
  rcases h with rfl | h
  · exact Int.le_refl _
  · unfold lexD at h; omega
theorem mg_left' {da : List Int} {a b i : Nat} {xs : List Int} (h : MG da a (a + 1) b xs) (hi : a + 1 ≤ i) (hib : i ≤ b) (h1 : i = a + 1 ∨ ltD da (xs.getD (i - 1) 0) (xs.getD a 0) = true) (h2 : i = b ∨ ltD da (xs.getD i 0) (xs.getD a 0) = false) :
    shU a (i - 1 - a) xs = segS (ltD da) a b xs := by
  refine mg_left h hi hib (fun k k1 k2 => ?_) fun k k1 k2 => ?_
  · rcases h1 with h1 | h1
    · omega
    · have := lex_val (sorted_le h.sr k1 (show k ≤ i - 1 by omega) (by omega))
      have h3 := of_decide_eq_true h1
      exact decide_eq_true (by omega)
  · rcases h2 with h2 | h2
    · omega
    · have := lex_val (sorted_le h.sr hi k1 k2)
      have h3 := of_decide_eq_false h2
      exact decide_eq_false (by omega)
theorem mg_right' {da : List Int} {a m i : Nat} {xs : List Int} (h : MG da a m (m + 1) xs) (hi : a ≤ i) (him : i ≤ m) (h1 : i = a ∨ ltD da (xs.getD m 0) (xs.getD (i - 1) 0) = false) (h2 : i = m ∨ ltD da (xs.getD m 0) (xs.getD i 0) = true) :
    shD m (m - i) xs = segS (ltD da) a (m + 1) xs := by
  refine mg_right h hi him (fun k k1 k2 => ?_) fun k k1 k2 => ?_
  · rcases h1 with h1 | h1
    · omega
    · have := lex_val (sorted_le h.sl k1 (show k ≤ i - 1 by omega) (by omega))
      have h3 := of_decide_eq_false h1
      exact decide_eq_false (by omega)
  · rcases h2 with h2 | h2
    · omega
    · have := lex_val (sorted_le h.sl hi k1 k2)
      have h3 := of_decide_eq_true h2
      exact decide_eq_true (by omega)
/-- Ready to be merged. -/
noncomputable def mgW (G : List Q → Int) (xs : List Int) (a m b : Int) : Bool := @decide (∃ da, ltG G = ltD da ∧ MG da a.toNat m.toNat b.toNat xs) (Classical.propDecidable _)
theorem mgW_inv {G : List Q → Int} {xs : List Int} {a m b : Nat} (h : mgW G xs (a : Int) (m : Int) (b : Int) = true) : ∃ da, ltG G = ltD da ∧ MG da a m b xs := by
  have := @of_decide_eq_true _ (Classical.propDecidable _) h
  simpa only [Int.toNat_natCast] using this
theorem mgW_of {G : List Q → Int} {xs : List Int} {a m b : Nat} {da : List Int} (h : ltG G = ltD da) (hm : MG da a m b xs) : mgW G xs (a : Int) (m : Int) (b : Int) = true := by
  refine @decide_eq_true _ (Classical.propDecidable _) ⟨da, h, ?_⟩
  simpa only [Int.toNat_natCast] using hm
theorem ltG_at {G : List Q → Int} {da : List Int} (h : ltG G = ltD da) (x y : Int) : decide (G [.i x, .i y] < 0) = ltD da x y := congrFun (congrFun h x) y
theorem segS_dom {dom : List Q → Bool} {lt : Int → Int → Bool} {a b : Nat} {xs : List Int} (h : domA dom xs = true) (h1 : a ≤ b) : domA dom (segS lt a b xs) = true := domA_sub h fun y hy => (segS_perm h1).mem_iff.1 hy
theorem perm_dom {dom : List Q → Bool} {xs ys : List Int} (h : domA dom xs = true) (hp : ys.Perm xs) : domA dom ys = true := domA_sub h fun y hy => hp.mem_iff.1 hy
theorem wSub {a b : Nat} (h : b ≤ a) (h2 : a ≤ 1000000) : IntKind.wrap .i64 ((a : Int) - (b : Int)) = ((a - b : Nat) : Int) := by rw [wS (by omega) (by omega)]; omega
/-- What follows the rotation: both halves are merged. -/
noncomputable def tailM (z : Int) (dom : List Q → Bool) (G : List Q → Int) (a s q e b : Int) (ys : List Int) : Option (List XR × List (List D)) :=
  let pre := fun (zs : List Int) (x y w : Int) => decide ((zs : List Int).length ≤ 60) && domA dom zs && mgW G zs x y w && decide (0 ≤ x) && decide (x < y) && decide (y < w) && decide (w - x ≤ z)
  let snd := fun (zs : List Int) => (bif decide (q < e) then (bif decide (e < b) then (bif pre zs q e b then some ([], [[(.ints .i64 (segS (ltG G) q.toNat b.toNat zs))]]) else none) else some ([], [[(.ints .i64 zs)]])) else some ([], [[(.ints .i64 zs)]]))
  (bif decide (a < s) then (bif decide (s < q) then (bif pre ys a s q then snd (segS (ltG G) a.toNat q.toNat ys) else none) else snd ys) else snd ys)
theorem tail_ok {z : Nat} {dom : List Q → Bool} {G : List Q → Int} {da : List Int} {a s q e b : Nat} {ys : List Int} (hlt : ltG G = ltD da) (hd : domA dom ys = true) (hl : ys.length ≤ 60)
    (m1 : MG da a s q ys) (m2 : MG da q e b (segS (ltD da) a q ys)) (hz1 : q ≤ a + z) (hz2 : b ≤ q + z) : tailM (z : Int) dom G (a : Int) (s : Int) (q : Int) (e : Int) (b : Int) ys = some ([], [[(.ints .i64 (segS (ltD da) q b (segS (ltD da) a q ys)))]]) := by
  have haq : a ≤ q := Nat.le_trans m1.am m1.mb
  have hqb : q ≤ b := Nat.le_trans m2.am m2.mb
  have hql := m1.bl
  have hl2 : (segS (ltD da) a q ys).length = ys.length := segS_len haq hql
  have hd2 : domA dom (segS (ltD da) a q ys) = true := segS_dom hd haq
  have snd : ∀ zs : List Int, zs.length = ys.length → domA dom zs = true → MG da q e b zs → (bif decide ((q : Int) < (e : Int)) then (bif decide ((e : Int) < (b : Int)) then (bif decide ((zs : List Int).length ≤ 60) && domA dom zs && mgW G zs (q : Int) (e : Int) (b : Int) && decide (0 ≤ (q : Int)) && decide ((q : Int) < (e : Int)) && decide ((e : Int) < (b : Int)) && decide ((b : Int) - (q : Int) ≤ (z : Int)) then some (([], [[(.ints .i64 (segS (ltG G) (q : Int).toNat (b : Int).toNat zs))]]) : List XR × List (List D)) else none) else some ([], [[(.ints .i64 zs)]])) else some ([], [[(.ints .i64 zs)]])) = some ([], [[(.ints .i64 (segS (ltD da) q b zs))]]) := by
    intro zs z1 z2 z3
    by_cases c1 : q < e
    · by_cases c2 : e < b
      · have hp : (decide ((zs : List Int).length ≤ 60) && domA dom zs && mgW G zs (q : Int) (e : Int) (b : Int) && decide (0 ≤ (q : Int)) && decide ((q : Int) < (e : Int)) && decide ((e : Int) < (b : Int)) && decide ((b : Int) - (q : Int) ≤ (z : Int))) = true := by
          simp only [z2, mgW_of hlt z3, Bool.and_true, Bool.and_eq_true, decide_eq_true_eq]; omega
        rw [hp, decide_eq_true (p := (q : Int) < (e : Int)) (by omega), decide_eq_true (p := (e : Int) < (b : Int)) (by omega)]
        simp only [cond_true, Int.toNat_natCast, hlt]
      · have : segS (ltD da) q b zs = zs := segS_self hqb z3.bl fun i j i1 i2 i3 => z3.sl i j i1 i2 (by have := z3.mb; omega)
        rw [this, decide_eq_true (p := (q : Int) < (e : Int)) (by omega), decide_eq_false (p := (e : Int) < (b : Int)) (by omega)]
        rfl
    · have : segS (ltD da) q b zs = zs := segS_self hqb z3.bl fun i j i1 i2 i3 => z3.sr i j (by have := z3.am; omega) i2 i3
      rw [this, decide_eq_false (p := (q : Int) < (e : Int)) (by omega)]
      rfl
  unfold tailM
  dsimp only
  by_cases c1 : a < s
  · by_cases c2 : s < q
    · have hp : (decide ((ys : List Int).length ≤ 60) && domA dom ys && mgW G ys (a : Int) (s : Int) (q : Int) && decide (0 ≤ (a : Int)) && decide ((a : Int) < (s : Int)) && decide ((s : Int) < (q : Int)) && decide ((q : Int) - (a : Int) ≤ (z : Int))) = true := by
        simp only [hd, mgW_of hlt m1, Bool.and_true, Bool.and_eq_true, decide_eq_true_eq]; omega
      have := snd (segS (ltD da) a q ys) hl2 hd2 m2
      rw [hp, decide_eq_true (p := (a : Int) < (s : Int)) (by omega), decide_eq_true (p := (s : Int) < (q : Int)) (by omega), cond_true, cond_true, cond_true, Int.toNat_natCast, Int.toNat_natCast, hlt]
      rw [Int.toNat_natCast, Int.toNat_natCast, hlt] at this
      exact this
    · have e1 : segS (ltD da) a q ys = ys := segS_self haq hql fun i j i1 i2 i3 => m1.sl i j i1 i2 (by have := m1.mb; omega)
      have := snd ys rfl hd (e1 ▸ m2)
      rw [e1, decide_eq_true (p := (a : Int) < (s : Int)) (by omega), decide_eq_false (p := (s : Int) < (q : Int)) (by omega), cond_true, cond_false]
      exact this
  · have e1 : segS (ltD da) a q ys = ys := segS_self haq hql fun i j i1 i2 i3 => m1.sr i j (by have := m1.am; omega) i2 i3
    have := snd ys rfl hd (e1 ▸ m2)
    rw [e1, decide_eq_false (p := (a : Int) < (s : Int)) (by omega), cond_false]
    exact this
end Go.Ab
namespace Go.Ab
/-- Ready to be sorted. -/
noncomputable def stW (G : List Q → Int) (xs : List Int) : Bool := @decide (∃ da, ltG G = ltD da ∧ xs.Pairwise (· < ·)) (Classical.propDecidable _)
theorem stW_inv {G : List Q → Int} {xs : List Int} (h : stW G xs = true) : ∃ da, ltG G = ltD da ∧ xs.Pairwise (· < ·) := @of_decide_eq_true _ (Classical.propDecidable _) h
theorem stW_of {G : List Q → Int} {xs da : List Int} (h : ltG G = ltD da) (hx : xs.Pairwise (· < ·)) : stW G xs = true := @decide_eq_true _ (Classical.propDecidable _) ⟨da, h, hx⟩
theorem bub_seg {da : List Int} {a : Nat} : ∀ (k : Nat) (ys : List Int), a + k < ys.length → (∀ i j, a ≤ i → i < j → j < a + k → lexD da (ys.getD i 0) (ys.getD j 0)) → (∀ i, a ≤ i → i < a + k → ys.getD i 0 < ys.getD (a + k) 0) →
    (∀ i j, a ≤ i → i < j → j < a + k + 1 → lexD da ((bubA (ltD da) a k ys).getD i 0) ((bubA (ltD da) a k ys).getD j 0)) ∧ (∀ i, a ≤ i → i < a + k + 1 → ∃ j, a ≤ j ∧ j < a + k + 1 ∧ (bubA (ltD da) a k ys).getD i 0 = ys.getD j 0) ∧
    (∀ i, (i < a ∨ a + k < i) → (bubA (ltD da) a k ys).getD i 0 = ys.getD i 0) ∧ (bubA (ltD da) a k ys).Perm ys
  | 0, ys, _, _, _ => ⟨fun i j h1 h2 h3 => by omega, fun i h1 h2 => ⟨i, h1, h2, rfl⟩, fun _ _ => rfl, List.Perm.refl _⟩
  | k + 1, ys, hl, hs, hp => by
    have hu := hp (a + k) (by omega) (by omega)
    have eS : (ys.set (a + k + 1) (ys.getD (a + k) 0)).set (a + k) (ys.getD (a + k + 1) 0) = swp ys (a + k + 1) (a + k) := rfl
    simp only [bubA, eS]
    cases hc : ltD da (ys.getD (a + k + 1) 0) (ys.getD (a + k) 0) with
    | false =>
      simp only [cond_false]
      refine ⟨fun i j h1 h2 h3 => ?_, fun i h1 h2 => ⟨i, h1, h2, rfl⟩, fun _ _ => by first | rfl | trivial, List.Perm.refl _⟩
      by_cases cj : j < a + (k + 1)
      · exact hs i j h1 h2 cj
      · have ej : j = a + k + 1 := by omega
        subst ej
        have huv : lexD da (ys.getD (a + k) 0) (ys.getD (a + k + 1) 0) := lt_lex' hc hu
        by_cases ci : i = a + k
        · subst ci; exact huv
        · exact lex_trans (hs i (a + k) h1 (by omega) (by omega)) huv
    | true =>
      simp only [cond_true]
      have hg := fun q => swp_get (xs := ys) (i := a + k + 1) (j := a + k) (k := q) (by omega) (by omega)
      have hlo : ∀ q, q < a + k → (swp ys (a + k + 1) (a + k)).getD q 0 = ys.getD q 0 := fun q hq => by rw [hg, if_neg (by omega), if_neg (by omega)]
      have hmid : (swp ys (a + k + 1) (a + k)).getD (a + k) 0 = ys.getD (a + k + 1) 0 := by rw [hg, if_pos rfl]
      have htop : (swp ys (a + k + 1) (a + k)).getD (a + k + 1) 0 = ys.getD (a + k) 0 := by rw [hg, if_neg (by omega), if_pos rfl]
      have hhi : ∀ q, a + k + 1 < q → (swp ys (a + k + 1) (a + k)).getD q 0 = ys.getD q 0 := fun q hq => by rw [hg, if_neg (by omega), if_neg (by omega)]
      obtain ⟨r1, r2, r3, r4⟩ := bub_seg (da := da) (a := a) k (swp ys (a + k + 1) (a + k)) (by rw [swp_len]; omega) (fun i j h1 h2 h3 => by rw [hlo i (by omega), hlo j h3]; exact hs i j h1 h2 (by omega)) (fun i h1 h2 => by rw [hlo i h2, hmid]; exact hp i h1 (by omega))
      have hmem : ∀ i, a ≤ i → i < a + k + 1 → ∃ j, a ≤ j ∧ j < a + (k + 1) + 1 ∧ j ≠ a + k ∧ (bubA (ltD da) a k (swp ys (a + k + 1) (a + k))).getD i 0 = ys.getD j 0 := fun i h1 h2 => by
        obtain ⟨j, j1, j2, j3⟩ := r2 i h1 h2
        by_cases cj : j = a + k
        · subst cj; exact ⟨a + k + 1, by omega, by omega, by omega, by rw [j3, hmid]⟩
        · exact ⟨j, j1, by omega, cj, by rw [j3, hlo j (by omega)]⟩
      have hlast : (bubA (ltD da) a k (swp ys (a + k + 1) (a + k))).getD (a + k + 1) 0 = ys.getD (a + k) 0 := by rw [r3 _ (.inr (by omega)), htop]
      refine ⟨fun i j h1 h2 h3 => ?_, fun i h1 h2 => ?_, fun i hi => ?_, r4.trans (swp_perm (by omega) (by omega))⟩
      · by_cases cj : j < a + k + 1
        · exact r1 i j h1 h2 cj
        · have ej : j = a + k + 1 := by omega
          subst ej
          rw [hlast]
          obtain ⟨q, q1, q2, q3, q4⟩ := hmem i h1 (by omega)
          rw [q4]
          by_cases cq : q < a + k
          · exact hs q (a + k) q1 cq (by omega)
          · have : q = a + k + 1 := by omega
            subst this
            exact lt_lex hc
      · by_cases ci : i < a + k + 1
        · obtain ⟨q, q1, q2, _, q4⟩ := hmem i h1 ci
          exact ⟨q, q1, q2, q4⟩
        · have ei : i = a + k + 1 := by omega
          subst ei
          exact ⟨a + k, by omega, by omega, hlast⟩
      · rw [r3 i (by omega)]
        rcases hi with hi | hi
        · exact hlo i (by omega)
        · exact hhi i (by omega)
theorem isN_seg {da : List Int} {a : Nat} {xs : List Int} : ∀ n, a + n ≤ xs.length → (∀ i j, a ≤ i → i < j → j < a + n → xs.getD i 0 < xs.getD j 0) →
    (∀ i j, a ≤ i → i < j → j < a + n → lexD da ((isN (ltD da) a n xs).getD i 0) ((isN (ltD da) a n xs).getD j 0)) ∧ (∀ i, a ≤ i → i < a + n → ∃ j, a ≤ j ∧ j < a + n ∧ (isN (ltD da) a n xs).getD i 0 = xs.getD j 0) ∧
    (∀ i, (i < a ∨ a + n ≤ i) → (isN (ltD da) a n xs).getD i 0 = xs.getD i 0) ∧ (isN (ltD da) a n xs).Perm xs
  | 0, _, _ => ⟨fun i j h1 h2 h3 => by omega, fun i h1 h2 => by omega, fun _ _ => rfl, List.Perm.refl _⟩
  | n + 1, hl, hs => by
    obtain ⟨r1, r2, r3, r4⟩ := isN_seg (da := da) (a := a) (xs := xs) n (by omega) fun i j h1 h2 h3 => hs i j h1 h2 (by omega)
    have hlen := isN_len (ltD da) a n xs
    have htop := r3 (a + n) (.inr (by omega))
    obtain ⟨b1, b2, b3, b4⟩ := bub_seg (da := da) (a := a) n (isN (ltD da) a n xs) (by omega) r1 fun i h1 h2 => by
      obtain ⟨j, j1, j2, j3⟩ := r2 i h1 h2
      rw [j3, htop]
      exact hs j (a + n) j1 j2 (by omega)
    simp only [isN]
    refine ⟨fun i j h1 h2 h3 => b1 i j h1 h2 (by omega), fun i h1 h2 => ?_, fun i hi => ?_, b4.trans r4⟩
    · obtain ⟨j, j1, j2, j3⟩ := b2 i h1 (by omega)
      by_cases cj : j < a + n
      · obtain ⟨q, q1, q2, q3⟩ := r2 j j1 cj
        exact ⟨q, q1, by omega, by rw [j3, q3]⟩
      · have : j = a + n := by omega
        subst this
        exact ⟨a + n, by omega, by omega, by rw [j3, htop]⟩
    · rw [b3 i (by omega), r3 i (by omega)]
/-- Insertion sorts a part. -/
theorem ins_seg {da : List Int} {a n : Nat} {xs : List Int} (hl : a + n ≤ xs.length) (hs : ∀ i j, a ≤ i → i < j → j < a + n → xs.getD i 0 < xs.getD j 0) : isN (ltD da) a n xs = segS (ltD da) a (a + n) xs := by
  obtain ⟨r1, _, r3, r4⟩ := isN_seg (da := da) n hl hs
  exact segS_of (by omega) hl r4 (fun k hk => r3 k (.inl hk)) (fun k hk => r3 k (.inr hk)) r1
end Go.Ab
namespace Go.Ab
/-- Blocks of twenty: those ahead of a are sorted, the others are as they were. -/
structure IB (da : List Int) (a N : Nat) (xs ys : List Int) : Prop where
  len : ys.length = N
  perm : ys.Perm xs
  srt : ∀ i j, i < j → j < a → i / 20 = j / 20 → lexD da (ys.getD i 0) (ys.getD j 0)
  rest : ∀ k, a ≤ k → ys.getD k 0 = xs.getD k 0
  blk : ∀ i j, i < j → j < N → i / 20 < j / 20 → ys.getD i 0 < ys.getD j 0
theorem up_at {xs : List Int} (h : xs.Pairwise (· < ·)) {i j : Nat} (hij : i < j) (hj : j < xs.length) : xs.getD i 0 < xs.getD j 0 := pair_get (R := (· < ·)) h hij hj
theorem IB.first {da xs : List Int} (h : xs.Pairwise (· < ·)) : IB da 0 xs.length xs xs :=
  ⟨rfl, List.Perm.refl _, fun i j h1 h2 => by omega, fun _ _ => rfl, fun i j h1 h2 _ => up_at h h1 h2⟩
theorem IB.up {da : List Int} {a N : Nat} {xs ys : List Int} (h : IB da a N xs ys) (hx : xs.Pairwise (· < ·)) {i j : Nat} (hi : a ≤ i) (hij : i < j) (hj : j < N) : ys.getD i 0 < ys.getD j 0 := by
  rw [h.rest i hi, h.rest j (by omega)]
  exact up_at hx hij (by rw [← h.perm.length_eq, h.len]; exact hj)
theorem IB.step {da : List Int} {a c N : Nat} {xs ys : List Int} (h : IB da a N xs ys) (hx : xs.Pairwise (· < ·)) (ha : a % 20 = 0) (hac : a ≤ c) (hc : c ≤ a + 20) (hcN : c ≤ N) : IB da c N xs (segS (ltD da) a c ys) := by
  have hl := h.len
  have hcl : c ≤ ys.length := by omega
  have hmem : ∀ p, p < N → ∃ p', p' < N ∧ p' / 20 = p / 20 ∧ (segS (ltD da) a c ys).getD p 0 = ys.getD p' 0 := fun p hp => by
    by_cases c1 : p < a
    · exact ⟨p, hp, rfl, segS_lo hac hcl c1⟩
    by_cases c2 : c ≤ p
    · exact ⟨p, hp, rfl, segS_hi hac hcl c2⟩
    · obtain ⟨q, q1, q2, q3⟩ := segS_mem (lt := ltD da) (xs := ys) hac hcl (show a ≤ p by omega) (show p < c by omega)
      exact ⟨q, by omega, by omega, q3⟩
  refine ⟨by rw [segS_len hac hcl]; exact hl, (segS_perm hac).trans h.perm, fun i j h1 h2 h3 => ?_, fun k hk => ?_, fun i j h1 h2 h3 => ?_⟩
  · by_cases cj : j < a
    · rw [segS_lo hac hcl (by omega), segS_lo hac hcl cj]; exact h.srt i j h1 cj h3
    · exact segS_lex hac hcl (fun p q p1 p2 p3 => by have := h.up hx p1 p2 (by omega); omega) i j (by omega) h1 h2
  · rw [segS_hi hac hcl hk]; exact h.rest k (by omega)
  · obtain ⟨p, p1, p2, p3⟩ := hmem i (by omega)
    obtain ⟨q, q1, q2, q3⟩ := hmem j h2
    rw [p3, q3]
    exact h.blk p q (by omega) q1 (by omega)
theorem IB.ins {da : List Int} {a c N : Nat} {xs ys : List Int} {G : List Q → Int} (hlt : ltG G = ltD da) (h : IB da a N xs ys) (hx : xs.Pairwise (· < ·)) (hac : a ≤ c) (hcN : c ≤ N) : isW G a (c - a) ys = segS (ltD da) a c ys := by
  have hl := h.len
  have := ins_seg (da := da) (a := a) (n := c - a) (xs := ys) (by omega) fun i j h1 h2 h3 => h.up hx h1 h2 (by omega)
  unfold isW
  rw [hlt, this, show a + (c - a) = c by omega]
/-- A sorted part of a row is that of any of its orders. -/
theorem segS_any {da : List Int} {N : Nat} {xs ys : List Int} (hN : N = xs.length) (hp : ys.Perm xs) (hs : ∀ i j, i < j → j < N → lexD da (ys.getD i 0) (ys.getD j 0)) : segS (ltD da) 0 N xs = ys := by
  have hl := hp.length_eq
  refine (segS_of (Nat.zero_le _) (by omega) hp (fun k hk => by omega) (fun k hk => ?_) fun i j _ h2 h3 => hs i j h2 h3).symm
  rw [show ys.getD k 0 = 0 by simp [List.getD, List.getElem?_eq_none (show ys.length ≤ k by omega)], show xs.getD k 0 = 0 by simp [List.getD, List.getElem?_eq_none (show xs.length ≤ k by omega)]]
theorem IB.small {da : List Int} {N : Nat} {xs ys : List Int} (h : IB da N N xs ys) (hN : N ≤ 20) : segS (ltD da) 0 N xs = ys :=
  segS_any (by rw [← h.perm.length_eq, h.len]) h.perm fun i j h1 h2 => h.srt i j h1 h2 (by omega)
theorem IB.two {da : List Int} {N b : Nat} {xs ys : List Int} (h : IB da N N xs ys) (hb : 20 ≤ b) (hb2 : b ≤ 40) (hbN : b ≤ N) : MG da 0 20 b ys :=
  ⟨by omega, hb, by rw [h.len]; exact hbN, fun i j _ h2 h3 => h.srt i j h2 (by omega) (by omega), fun i j h1 h2 h3 => h.srt i j h2 (by omega) (by omega), fun i j _ h2 h3 h4 => h.blk i j (by omega) (by omega) (by omega)⟩
theorem IB.three {da : List Int} {N : Nat} {xs ys : List Int} (h : IB da N N xs ys) (hN : 40 ≤ N) (hN2 : N ≤ 60) : MG da 0 40 N (segS (ltD da) 0 40 ys) := by
  have hl := h.len
  have m := h.two (b := 40) (by omega) (by omega) hN
  refine ⟨by omega, hN, by rw [segS_len (by omega) (by omega)]; omega, fun i j h1 h2 h3 => segS_lex (by omega) (by omega) m.ne i j h1 h2 h3, fun i j h1 h2 h3 => ?_, fun i j h1 h2 h3 h4 => ?_⟩
  · rw [segS_hi (by omega) (by omega) h1, segS_hi (by omega) (by omega) (by omega)]
    exact h.srt i j h2 h3 (by omega)
  · obtain ⟨q, q1, q2, q3⟩ := segS_mem (lt := ltD da) (xs := ys) (a := 0) (b := 40) (by omega) (by omega) h1 h2
    rw [q3, segS_hi (by omega) (by omega) h3]
    exact h.blk q j (by omega) h4 (by omega)
theorem MG.whole {da : List Int} {N m : Nat} {xs ys : List Int} (h : MG da 0 m N ys) (hN : N = xs.length) (hp : ys.Perm xs) : segS (ltD da) 0 N xs = segS (ltD da) 0 N ys :=
  segS_any hN ((segS_perm (Nat.zero_le _)).trans hp) fun i j h1 h2 => segS_lex (Nat.zero_le _) h.bl h.ne i j (Nat.zero_le _) h1 h2
theorem segS_gr (da : List Int) : segS (ltD da) 0 da.length (upN da.length) = grN da da.length :=
  segS_any (upN_length _).symm (grN_perm _ _) fun i j h1 h2 => pair_get (grN_lex da da.length) h1 (by rw [grN_length]; exact h2)
end Go.Ab
namespace Go.Ab
theorem gu_len (sh da : List Int) : (guS sh da).length ≤ 1 ∧ (guD sh da).length ≤ 60 := by
  unfold guS guD
  cases h : vcB sh da with
  | false => simp
  | true =>
    have := (vcB_inv h).2.2.1
    simp [grN_length]
    omega
theorem sot_len (sh da : List Int) : (soS sh da).length ≤ 1 ∧ (soD sh da).length ≤ 60 := by
  unfold soS soD
  cases h : vcB sh da with
  | false => simp
  | true =>
    have := (vcB_inv h).2.2.1
    simp [so_len]
    omega
/-- The middle, as it is computed. -/
def halfI (x y : Int) : Int := IntKind.wrap .i64 (Int.fdiv (IntKind.wrap .u64 (IntKind.wrap .i64 (x + y))) (2 ^ min (1 : Int).toNat (IntKind.bits .u64)))
theorem halfV {x y : Nat} (h : x + y ≤ 1000) : halfI (x : Int) (y : Int) = (((x + y) / 2 : Nat) : Int) := halfW h
end Go.Ab
