import Derived.Test.Ytfdcmbjkapcbcacetrp
open Go Go.Ab
set_option maxRecDepth 100000
set_option linter.unusedVariables false
set_option linter.unusedSimpArgs false
namespace Go.Ab
/-! Trees. -/
inductive Tr where
  | mk (k s n : Int) (xs : List Int) (ks : List Tr)

def Tr.k : Tr → Int | .mk k _ _ _ _ => k
def Tr.s : Tr → Int | .mk _ s _ _ _ => s
def Tr.n : Tr → Int | .mk _ _ n _ _ => n
def Tr.xs : Tr → List Int | .mk _ _ _ xs _ => xs
def Tr.ks : Tr → List Tr | .mk _ _ _ _ ks => ks
theorem Tr.eta (t : Tr) : Tr.mk t.k t.s t.n t.xs t.ks = t := by cases t; rfl

mutual
def treeD : Tr → D
  | .mk k s n xs ks => .agg [.int .i64 k, .int .i64 s, .int .i64 n, .ints .i64 xs, .seq 5 (treeDs ks)]
def treeDs : List Tr → List D
  | [] => []
  | t :: ts => treeD t :: treeDs ts
end

theorem treeDs_map : ∀ ts, treeDs ts = ts.map treeD
  | [] => rfl
  | t :: ts => by rw [treeDs, treeDs_map ts]; rfl

mutual
theorem treeD_inj : ∀ (a b : Tr), treeD a = treeD b → a = b
  | .mk k s n xs ks, .mk k2 s2 n2 xs2 ks2, h => by
    simp only [treeD, D.agg.injEq, List.cons.injEq, D.int.injEq, D.ints.injEq, D.seq.injEq, true_and, and_true] at h
    obtain ⟨h1, h2, h3, h4, h5⟩ := h
    rw [h1, h2, h3, h4, treeDs_inj ks ks2 h5]
theorem treeDs_inj : ∀ (a b : List Tr), treeDs a = treeDs b → a = b
  | [], [], _ => rfl
  | [], _ :: _, h => by simp [treeDs] at h
  | _ :: _, [], h => by simp [treeDs] at h
  | t :: ts, u :: us, h => by
    simp only [treeDs, List.cons.injEq] at h
    rw [treeD_inj t u h.1, treeDs_inj ts us h.2]
end

noncomputable def treesB (ks : List D) : Bool := @decide (∃ ts, ks = treeDs ts) (Classical.propDecidable _)
noncomputable def trsOf (ks : List D) : List Tr := @dite _ (∃ ts, ks = treeDs ts) (Classical.propDecidable _) (fun h => h.choose) (fun _ => [])
theorem treesB_iff {ks : List D} : treesB ks = true ↔ ∃ ts, ks = treeDs ts := by unfold treesB; exact @decide_eq_true_iff _ (Classical.propDecidable _)
theorem treesB_treeDs (ts : List Tr) : treesB (treeDs ts) = true := treesB_iff.2 ⟨ts, rfl⟩
theorem trsOf_treeDs (ts : List Tr) : trsOf (treeDs ts) = ts := by
  unfold trsOf
  have h : ∃ us, treeDs ts = treeDs us := ⟨ts, rfl⟩
  rw [dif_pos h]
  exact (treeDs_inj _ _ h.choose_spec).symm

noncomputable def mkT (k s n : Int) (xs : List Int) (ks : List D) : Tr := .mk k s n xs (trsOf ks)
theorem mkT_treeDs (k s n : Int) (xs : List Int) (ts : List Tr) : mkT k s n xs (treeDs ts) = .mk k s n xs ts := by rw [mkT, trsOf_treeDs]

theorem treeDs_length (ts : List Tr) : (treeDs ts).length = ts.length := by rw [treeDs_map]; simp
theorem treeDs_get {ts : List Tr} {i : Nat} (h : i < ts.length) : (treeDs ts)[i]? = some (treeD ts[i]) := by rw [treeDs_map]; simp [h]
abbrev treeSh : List Sh := [.int .i64, .int .i64, .int .i64, .ints .i64, .seq 5]
theorem tr_cell {ts : List Tr} {i : Nat} (h : i < ts.length) (j : Nat) : cellAt (treeDs ts) i j = ((treeD ts[i]).cells[j]?).getD .junk := by
  unfold cellAt
  rw [treeDs_get h]
  rfl
theorem tr_view {ts : List Tr} {i : Nat} (h : i < ts.length) : okS treeSh (treeDs ts) i = true ∧ cellI (treeDs ts) i 0 = ts[i].k ∧ cellI (treeDs ts) i 1 = ts[i].s ∧ cellI (treeDs ts) i 2 = ts[i].n ∧ cellL (treeDs ts) i 3 = ts[i].xs ∧ cellQ (treeDs ts) i 4 = treeDs ts[i].ks := by
  simp only [okS, treeDs_get h, cellI, cellL, cellQ, tr_cell h]
  cases ts[i]
  simp [treeD, D.cells, isVs, isV, datI, datL, datQ, Tr.k, Tr.s, Tr.n, Tr.xs, Tr.ks]
/-- Element i, as the equations name it. -/
theorem tr_mk {ts : List Tr} {i : Nat} (h : i < ts.length) : mkT (cellI (treeDs ts) i 0) (cellI (treeDs ts) i 1) (cellI (treeDs ts) i 2) (cellL (treeDs ts) i 3) (cellQ (treeDs ts) i 4) = ts[i] := by
  obtain ⟨_, h1, h2, h3, h4, h5⟩ := tr_view h
  rw [h1, h2, h3, h4, h5, mkT_treeDs, Tr.eta]
theorem tr_tb {ts : List Tr} {i : Nat} (h : i < ts.length) : treesB (cellQ (treeDs ts) i 4) = true := by
  rw [(tr_view h).2.2.2.2.2]; exact treesB_treeDs _
theorem tr_D {ts : List Tr} {i : Nat} (h : i < ts.length) : D.agg [.int .i64 (cellI (treeDs ts) i 0), .int .i64 (cellI (treeDs ts) i 1), .int .i64 (cellI (treeDs ts) i 2), .ints .i64 (cellL (treeDs ts) i 3), .seq 5 (cellQ (treeDs ts) i 4)] = treeD ts[i] := by
  obtain ⟨_, h1, h2, h3, h4, h5⟩ := tr_view h
  rw [h1, h2, h3, h4, h5]
  cases ts[i]
  rfl

mutual
def hgtT : Tr → Nat | .mk _ _ _ _ ks => hgtTs ks + 1
def hgtTs : List Tr → Nat
  | [] => 0
  | t :: ts => max (hgtT t) (hgtTs ts)
end
theorem hgt_get : ∀ {ts : List Tr} {i : Nat} (h : i < ts.length), hgtT ts[i] ≤ hgtTs ts
  | t :: ts, 0, _ => by simp only [hgtTs, List.getElem_cons_zero]; omega
  | t :: ts, i + 1, h => by
    have := hgt_get (ts := ts) (i := i) (by simpa using h)
    simp only [hgtTs, List.getElem_cons_succ]
    omega

mutual
/-- All slices are shorter than m. -/
def smT (m : Nat) : Tr → Bool | .mk _ _ _ xs ks => decide (xs.length ≤ m) && decide (ks.length ≤ m) && smTs m ks
def smTs (m : Nat) : List Tr → Bool
  | [] => true
  | t :: ts => smT m t && smTs m ts
end
def smallT (t : Tr) : Bool := smT 1048576 t
def smlL (t : Tr) : Bool := smT 9223372036854775807 t
theorem sm_get {m : Nat} : ∀ {ts : List Tr} {i : Nat} (h : i < ts.length), smTs m ts = true → smT m ts[i] = true
  | t :: ts, 0, _, hs => by simp only [smTs, Bool.and_eq_true] at hs; exact hs.1
  | t :: ts, i + 1, h, hs => by
    simp only [smTs, Bool.and_eq_true] at hs
    exact sm_get (ts := ts) (i := i) (by simpa using h) hs.2

mutual
def szT : Tr → Int → Int
  | .mk _ _ _ xs ks, l => bif decide (szI xs l < 0) then -1 else bif decide (IntKind.wrap .i64 (szI xs l - ((ks.length : Nat) : Int)) < 0) then -1 else szTs ks (IntKind.wrap .i64 (szI xs l - ((ks.length : Nat) : Int)))
def szTs : List Tr → Int → Int
  | [], l => l
  | t :: ts, l => bif decide (szT t l < 0) then -1 else szTs ts (szT t l)
end

theorem szI_sml {xs : List Int} {l : Int} (hx : xs.length ≤ 9223372036854775807) (h0 : 0 ≤ l) (hl : l ≤ 1048576) (h : ¬ szI xs l < 0) : xs.length ≤ 1048576 ∧ 0 ≤ szI xs l ∧ szI xs l ≤ l := by
  have hw : IntKind.wrap .i64 (l - ((xs.length : Nat) : Int)) = l - xs.length := wS (by omega) (by omega)
  unfold szI at h ⊢
  rw [hw] at h ⊢
  by_cases hd : l - (xs.length : Int) < 0
  · simp [hd] at h
  · simp only [decide_eq_false hd, cond_false] at h ⊢
    omega

mutual
theorem szT_small : ∀ (t : Tr) (l : Int), smT 9223372036854775807 t = true → 0 ≤ l → l ≤ 1048576 → ¬ szT t l < 0 → smT 1048576 t = true ∧ 0 ≤ szT t l ∧ szT t l ≤ l
  | .mk k s n xs ks, l, hs, h0, hl, h => by
    simp only [smT, Bool.and_eq_true, decide_eq_true_eq] at hs
    unfold szT at h ⊢
    by_cases h1 : szI xs l < 0
    · simp [h1] at h
    obtain ⟨g1, g2, g3⟩ := szI_sml hs.1.1 h0 hl h1
    simp only [decide_eq_false h1, cond_false] at h ⊢
    have hw : IntKind.wrap .i64 (szI xs l - ((ks.length : Nat) : Int)) = szI xs l - ks.length := wS (by omega) (by omega)
    rw [hw] at h ⊢
    by_cases h2 : szI xs l - (ks.length : Int) < 0
    · simp [h2] at h
    simp only [decide_eq_false h2, cond_false] at h ⊢
    obtain ⟨g4, g5, g6⟩ := szTs_small ks _ hs.2 (by omega) (by omega) h
    refine ⟨?_, g5, by omega⟩
    simp only [smT, Bool.and_eq_true, decide_eq_true_eq]
    exact ⟨⟨g1, by omega⟩, g4⟩
theorem szTs_small : ∀ (ts : List Tr) (l : Int), smTs 9223372036854775807 ts = true → 0 ≤ l → l ≤ 1048576 → ¬ szTs ts l < 0 → smTs 1048576 ts = true ∧ 0 ≤ szTs ts l ∧ szTs ts l ≤ l
  | [], l, _, h0, _, _ => ⟨rfl, h0, Int.le_refl _⟩
  | t :: ts, l, hs, h0, hl, h => by
    simp only [smTs, Bool.and_eq_true] at hs
    unfold szTs at h ⊢
    by_cases h1 : szT t l < 0
    · simp [h1] at h
    simp only [decide_eq_false h1, cond_false] at h ⊢
    obtain ⟨g1, g2, g3⟩ := szT_small t l hs.1 h0 hl h1
    obtain ⟨g4, g5, g6⟩ := szTs_small ts _ hs.2 g2 (by omega) h
    exact ⟨by simp only [smTs, g1, g4, Bool.and_self], g5, by omega⟩
end

/-! What is valid. -/
def sgOk (s : Int) : Bool := decide (0 ≤ s) && decide (s ≤ 7)
def kidN (k : Int) : Nat := if k = 2 ∨ k = 4 then 1 else if k = 3 then 2 else 0
theorem kidN_le (k : Int) : kidN k ≤ 2 := by
  unfold kidN
  split
  · omega
  · split <;> omega
def bareT (k s n : Int) (xs : List Int) : Bool :=
  bif k == 0 then (s == 0) && (n == 0) else bif k == 1 then (s == 0) && decide (xs.length = 0) else (n == 0) && decide (xs.length = 0)
def oneOk (s : Int) : Bool := s == 1 || s == 8 || s == 9 || s == 10
def twoOk (s : Int) : Bool := s == 8 || s == 10 || s == 11 || sgOk s
def numsOk (xs : List Int) : Bool := decide (1 ≤ xs.length) && decide (xs.length ≤ 40) && xs.all numB
def nameOk (n : Int) : Bool := decide (0 ≤ n) && decide (n < 4)
def partOk (k s n : Int) (xs : List Int) : Bool :=
  bif k == 0 then numsOk xs else bif k == 1 then nameOk n else bif k == 2 then oneOk s else bif k == 3 then twoOk s else bif k == 4 then sgOk s else false
def validT : Nat → Tr → Bool
  | 0, _ => false
  | d + 1, .mk k s n xs ks => bareT k s n xs && decide (ks.length = kidN k) && partOk k s n xs && ks.all (validT d)

/-- The place of the first number that is too large, -1 for none. -/
def badFrom : List Int → Nat → Int
  | [], _ => -1
  | x :: xs, j => bif numB x then badFrom xs (j + 1) else (j : Int)
def badI (xs : List Int) : Int := badFrom xs 0
theorem badFrom_neg : ∀ (xs : List Int) (j : Nat), decide (badFrom xs j ≥ 0) = !(xs.all numB)
  | [], j => by simp [badFrom]
  | x :: xs, j => by
    unfold badFrom
    cases h : numB x with
    | true => simp only [cond_true, List.all_cons, h, Bool.true_and]; exact badFrom_neg xs (j + 1)
    | false => simp [h]

/-! Nodes. -/
structure Ids where
  n0 : Nat
  n1 : Nat
  n2 : Nat
  n3 : Nat
  n4 : Nat

def tyN (I : Ids) (k : Int) : Nat := if k = 0 then I.n0 else if k = 1 then I.n1 else if k = 2 then I.n2 else if k = 3 then I.n3 else I.n4
mutual
def payT (I : Ids) : Tr → D
  | .mk k s n xs ks => if k = 0 then .agg [.ints .i64 xs] else if k = 1 then .agg [.int .i64 n] else .agg (.int .i64 s :: payTs I ks)
def payTs (I : Ids) : List Tr → List D
  | [] => []
  | t :: ts => .iface (tyN I t.k) (payT I t) :: payTs I ts
end
theorem payTs_map (I : Ids) : ∀ ts, payTs I ts = ts.map fun t => D.iface (tyN I t.k) (payT I t)
  | [] => rfl
  | t :: ts => by rw [payTs, payTs_map I ts]; rfl

def isNumsD : D → Bool | .agg [.ints .i64 _] => true | _ => false
def isNameD : D → Bool | .agg [.int .i64 _] => true | _ => false
def isOneD : D → Bool | .agg [.int .i64 _, .iface _ _] => true | _ => false
def isTwoD : D → Bool | .agg [.int .i64 _, .iface _ _, .iface _ _] => true | _ => false
def nodeP (I : Ids) (ty : Nat) (d : D) : Bool :=
  (decide (ty = I.n0) && isNumsD d) || (decide (ty = I.n1) && isNameD d) || (decide (ty = I.n2) && isOneD d) || (decide (ty = I.n3) && isTwoD d) || (decide (ty = I.n4) && isOneD d)
def fitsN (I : Ids) (ty : Nat) (d : D) : Bool :=
  if ty = I.n0 then numsOk (datL (d.cells.headD .junk)) else if ty = I.n1 then nameOk (datI (d.cells.headD .junk)) else if ty = I.n2 then oneOk (datI (d.cells.headD .junk)) else if ty = I.n3 then twoOk (datI (d.cells.headD .junk)) else sgOk (datI (d.cells.headD .junk))

/-- Of rows that are filled from their beginning on: the first j are there. -/
def partG (L : List D) (z : D) (j : Nat) : List D := L.take j ++ List.replicate (L.length - j) z
theorem partG_zero (L : List D) (z : D) : partG L z 0 = List.replicate L.length z := by simp [partG]
theorem partG_all (L : List D) (z : D) : partG L z L.length = L := by simp [partG]
theorem partG_length {L : List D} {z : D} {j : Nat} (h : j ≤ L.length) : (partG L z j).length = L.length := by simp [partG]; omega
theorem partG_set {L : List D} {z : D} {j : Nat} (h : j < L.length) : (partG L z j).set j L[j] = partG L z (j + 1) := by
  unfold partG
  rw [List.set_append_right _ _ (by simp; omega)]
  have e1 : j - (L.take j).length = 0 := by simp; omega
  rw [e1]
  obtain ⟨m, hm⟩ : ∃ m, L.length - j = m + 1 := ⟨L.length - j - 1, by omega⟩
  rw [hm, List.replicate_succ, List.set_cons_zero, show L.length - (j + 1) = m by omega]
  rw [List.take_succ_eq_append_getElem h, List.append_assoc]
  rfl
end Go.Ab
namespace Go.Ab
mutual
def Tr.beq : Tr → Tr → Bool
  | .mk k s n xs ks, .mk k2 s2 n2 xs2 ks2 => k == k2 && s == s2 && n == n2 && decide (xs = xs2) && Tr.beqs ks ks2
def Tr.beqs : List Tr → List Tr → Bool
  | [], [] => true
  | t :: ts, u :: us => Tr.beq t u && Tr.beqs ts us
  | _, _ => false
end
mutual
theorem Tr.beq_iff : ∀ (a b : Tr), Tr.beq a b = true ↔ a = b
  | .mk k s n xs ks, .mk k2 s2 n2 xs2 ks2 => by
    simp only [Tr.beq, Bool.and_eq_true, beq_iff_eq, decide_eq_true_eq, Tr.beqs_iff ks ks2, Tr.mk.injEq]
    constructor
    · rintro ⟨⟨⟨⟨h1, h2⟩, h3⟩, h4⟩, h5⟩; exact ⟨h1, h2, h3, h4, h5⟩
    · rintro ⟨h1, h2, h3, h4, h5⟩; exact ⟨⟨⟨⟨h1, h2⟩, h3⟩, h4⟩, h5⟩
theorem Tr.beqs_iff : ∀ (a b : List Tr), Tr.beqs a b = true ↔ a = b
  | [], [] => by simp [Tr.beqs]
  | [], _ :: _ => by simp [Tr.beqs]
  | _ :: _, [] => by simp [Tr.beqs]
  | t :: ts, u :: us => by simp only [Tr.beqs, Bool.and_eq_true, Tr.beq_iff t u, Tr.beqs_iff ts us, List.cons.injEq]
end
theorem Tr.beqs_drop {ts us : List Tr} (hl : ts.length = us.length) {j : Nat} (hj : j < ts.length) : Tr.beqs (ts.drop j) (us.drop j) = (Tr.beq ts[j] (us[j]'(by omega)) && Tr.beqs (ts.drop (j + 1)) (us.drop (j + 1))) := by
  rw [List.drop_eq_getElem_cons hj, List.drop_eq_getElem_cons (by omega : j < us.length), Tr.beqs]
theorem Tr.beqs_len : ∀ {ts us : List Tr}, ts.length ≠ us.length → Tr.beqs ts us = false
  | [], [], h => absurd rfl h
  | [], _ :: _, _ => rfl
  | _ :: _, [], _ => rfl
  | t :: ts, u :: us, h => by rw [Tr.beqs, Tr.beqs_len (by simpa using h), Bool.and_false]
theorem Tr.beq_self (t : Tr) : Tr.beq t t = true := (Tr.beq_iff t t).2 rfl
theorem szTs_drop {ts : List Tr} {j : Nat} (hj : j < ts.length) (l : Int) : szTs (ts.drop j) l = bif decide (szT ts[j] l < 0) then -1 else szTs (ts.drop (j + 1)) (szT ts[j] l) := by
  rw [List.drop_eq_getElem_cons hj, szTs]
end Go.Ab
namespace Go.Ab
/-! Trees that are drawn. -/
def smalL : List Int := [0, 1, 2, 3, -1, 5, -2, 4]
def numsFrom (bs : List Int) : Nat → Int → List Int
  | 0, _ => []
  | n + 1, p => oneV bs p smalL :: numsFrom bs n (p + 1)
def lenL (bs : List Int) (p : Int) : Nat := (oneV bs p [1, 1, 2, 3]).toNat
def leafT (bs : List Int) (p : Int) : Tr × Int :=
  bif pickV bs p 2 == 0 then (.mk 1 0 (pickV bs (p + 1) 4) [] [], p + 1 + 1) else (.mk 0 0 0 (numsFrom bs (lenL bs (p + 1)) (p + 1 + 1)) [], p + 1 + 1 + (lenL bs (p + 1) : Nat))
def signL : List Int := [0, 1, 2, 3, 4, 5, 6, 7, 10, 11, 0, 2]
def someT (bs : List Int) : Nat → Int → Tr × Int
  | 0, p => leafT bs p
  | 1, p => leafT bs p
  | d + 2, p => bif pickV bs p 5 == 0 then leafT bs (p + 1) else
    let a := someT bs (d + 1) (p + 1)
    bif pickV bs a.2 5 == 0 then (.mk 2 (oneV bs (a.2 + 1) [1, 8, 10, 1]) 0 [] [a.1], a.2 + 1 + 1) else
    bif pickV bs a.2 5 == 1 then (.mk 4 (pickV bs (a.2 + 1) 8) 0 [] [a.1], a.2 + 1 + 1) else
    bif pickV bs a.2 5 == 2 then (bif pickV bs (a.2 + 1 + 1) 2 == 0 then (.mk 2 9 0 [] [.mk 0 0 0 [pickV bs (a.2 + 1) 7] []], a.2 + 1 + 1 + 1)
      else (.mk 3 8 0 [] [.mk 0 0 0 [pickV bs (a.2 + 1 + 1 + 1) 4, pickV bs (a.2 + 1 + 1 + 1 + 1) 4] [], a.1], a.2 + 1 + 1 + 1 + 1 + 1)) else
    (.mk 3 (oneV bs (a.2 + 1) signL) 0 [] [(someT bs (d + 1) (a.2 + 1 + 1)).1, a.1], (someT bs (d + 1) (a.2 + 1 + 1)).2)

def nodeTT (bs : List Int) (a b : Tr × Int) : Tr × Int :=
  bif pickV bs a.2 5 == 0 then (.mk 2 (oneV bs (a.2 + 1) [1, 8, 10, 1]) 0 [] [a.1], a.2 + 1 + 1) else
  bif pickV bs a.2 5 == 1 then (.mk 4 (pickV bs (a.2 + 1) 8) 0 [] [a.1], a.2 + 1 + 1) else
  bif pickV bs a.2 5 == 2 then (bif pickV bs (a.2 + 1 + 1) 2 == 0 then (.mk 2 9 0 [] [.mk 0 0 0 [pickV bs (a.2 + 1) 7] []], a.2 + 1 + 1 + 1)
    else (.mk 3 8 0 [] [.mk 0 0 0 [pickV bs (a.2 + 1 + 1 + 1) 4, pickV bs (a.2 + 1 + 1 + 1 + 1) 4] [], a.1], a.2 + 1 + 1 + 1 + 1 + 1)) else
  (.mk 3 (oneV bs (a.2 + 1) signL) 0 [] [b.1, a.1], b.2)
theorem someT_two (bs : List Int) (d : Nat) (p : Int) : someT bs (d + 2) p = bif pickV bs p 5 == 0 then leafT bs (p + 1) else nodeTT bs (someT bs (d + 1) (p + 1)) (someT bs (d + 1) ((someT bs (d + 1) (p + 1)).2 + 1 + 1)) := rfl
theorem numsFrom_length (bs : List Int) : ∀ (n : Nat) (p : Int), (numsFrom bs n p).length = n
  | 0, _ => rfl
  | n + 1, p => by rw [numsFrom, List.length_cons, numsFrom_length bs n]
theorem lenL_bd {bs : List Int} {p : Int} (h : rdOk bs p = true) : oneV bs p [1, 1, 2, 3] = (lenL bs p : Int) ∧ lenL bs p ≤ 3 := by
  have := oneV_mem (xs := [1, 1, 2, 3]) h (by decide) (by decide)
  unfold lenL
  simp only [List.mem_cons, List.not_mem_nil, or_false] at this
  omega
theorem leafT_bd {bs : List Int} {p : Int} (h : rdOk bs p = true) (hp : p ≤ 1000000000) : p ≤ (leafT bs p).2 ∧ (leafT bs p).2 ≤ p + 5 ∧ (leafT bs p).1.xs.length ≤ 3 := by
  have h1 := lenL_bd (rd_le (q := p + 1) h (by omega) (by omega))
  unfold leafT
  cases pickV bs p 2 == 0
  · simp only [cond_false, Tr.xs, numsFrom_length]
    omega
  · simp only [cond_true, Tr.xs, List.length_nil]
    omega
def cB : Nat → Int
  | 0 => 5
  | 1 => 5
  | d + 2 => 2 * cB (d + 1) + 6
theorem cB_pos : ∀ d, 5 ≤ cB d
  | 0 => by decide
  | 1 => by decide
  | d + 2 => by have := cB_pos (d + 1); unfold cB; omega
theorem someT_bd {bs : List Int} : ∀ (d : Nat) {p : Int}, rdOk bs p = true → p + cB d ≤ 1000000000 → p ≤ (someT bs d p).2 ∧ (someT bs d p).2 ≤ p + cB d ∧ (someT bs d p).1.xs.length ≤ 3
  | 0, p, h, hp => by
    unfold cB at hp
    obtain ⟨h1, h2, h3⟩ := leafT_bd h (by omega)
    unfold someT cB
    exact ⟨h1, h2, h3⟩
  | 1, p, h, hp => by
    unfold cB at hp
    obtain ⟨h1, h2, h3⟩ := leafT_bd h (by omega)
    unfold someT cB
    exact ⟨h1, h2, h3⟩
  | d + 2, p, h, hp => by
    unfold cB at hp
    have hc := cB_pos (d + 1)
    have hp0 := (rdOk_inv h).1
    obtain ⟨a1, a2, a3⟩ := someT_bd (d + 1) (rd_le (q := p + 1) h (by omega) (by omega)) (by omega)
    obtain ⟨b1, b2, b3⟩ := someT_bd (d + 1) (rd_le (q := (someT bs (d + 1) (p + 1)).2 + 1 + 1) h (by omega) (by omega)) (by omega)
    unfold someT cB
    cases pickV bs p 5 == 0
    · simp only [cond_false]
      cases pickV bs (someT bs (d + 1) (p + 1)).2 5 == 0
      · simp only [cond_false]
        cases pickV bs (someT bs (d + 1) (p + 1)).2 5 == 1
        · simp only [cond_false]
          cases pickV bs (someT bs (d + 1) (p + 1)).2 5 == 2
          · simp only [cond_false, Tr.xs, List.length_nil]
            omega
          · simp only [cond_true]
            cases pickV bs ((someT bs (d + 1) (p + 1)).2 + 1 + 1) 2 == 0
            · simp only [cond_false, Tr.xs, List.length_nil]
              omega
            · simp only [cond_true, Tr.xs, List.length_nil]
              omega
        · simp only [cond_true, Tr.xs, List.length_nil]
          omega
      · simp only [cond_true, Tr.xs, List.length_nil]
        omega
    · simp only [cond_true]
      have := leafT_bd (rd_le (q := p + 1) h (by omega) (by omega)) (by omega)
      omega
theorem treeD_eta (t : Tr) : D.agg [.int .i64 t.k, .int .i64 t.s, .int .i64 t.n, .ints .i64 t.xs, .seq 5 (treeDs t.ks)] = treeD t := by cases t; rfl

def wrap1 (t : Tr) : Tr := .mk 2 1 0 [] [t]
def anyT (bs : List Int) (p : Int) : Tr :=
  let a := someT bs 4 p
  bif pickV bs a.2 24 == 0 then .mk a.1.k (oneV bs (a.2 + 1) [12, -1, 9]) a.1.n a.1.xs a.1.ks else
  bif pickV bs a.2 24 == 1 then .mk a.1.k a.1.s (oneV bs (a.2 + 1) [4, 1, -1]) a.1.xs a.1.ks else
  bif pickV bs a.2 24 == 2 then .mk a.1.k a.1.s a.1.n (spV bs (a.2 + 1) (a.1.xs ++ [1]) 1000001) a.1.ks else
  bif pickV bs a.2 24 == 3 then .mk (oneV bs (a.2 + 1) [-1, 5, 2]) a.1.s a.1.n a.1.xs a.1.ks else
  bif pickV bs a.2 24 == 4 then wrap1 (wrap1 (wrap1 (wrap1 (wrap1 (wrap1 a.1))))) else a.1
def anyTP (bs : List Int) (p : Int) : Int :=
  let a := someT bs 4 p
  bif pickV bs a.2 24 == 0 then a.2 + 1 + 1 else bif pickV bs a.2 24 == 1 then a.2 + 1 + 1 else bif pickV bs a.2 24 == 2 then spP bs (a.2 + 1) (a.1.xs ++ [1]) else bif pickV bs a.2 24 == 3 then a.2 + 1 + 1 else a.2 + 1

theorem validT_mono : ∀ (d : Nat) (t : Tr), validT d t = true → validT (d + 1) t = true
  | 0, t, h => by simp [validT] at h
  | d + 1, .mk k s n xs ks, h => by
    rw [validT] at h ⊢
    simp only [Bool.and_eq_true, List.all_eq_true] at h ⊢
    exact ⟨h.1, fun t ht => validT_mono d t (h.2 t ht)⟩
end Go.Ab
namespace Go.Ab
/-! Tokens. -/
abbrev Tok := Int × Int
def tokD (t : Tok) : D := .agg [.int .i64 t.1, .int .i64 t.2]
def tokDs (l : List Tok) : List D := l.map tokD
theorem tokDs_length (l : List Tok) : (tokDs l).length = l.length := by simp [tokDs]
theorem tokDs_app (a b : List Tok) : tokDs a ++ tokDs b = tokDs (a ++ b) := by simp [tokDs]
theorem tokDs_ok (l : List Tok) : okDs 2 (tokDs l) = true := by
  induction l with
  | nil => rfl
  | cons t l ih =>
    simp only [okDs, Bool.and_eq_true] at ih ⊢
    have e : D.flat (tokDs (t :: l)) = .int .i64 t.1 :: .int .i64 t.2 :: D.flat (tokDs l) := rfl
    rw [e]
    exact ⟨by simpa [D.one] using ih.1, by simp [tokDs, tokD, D.cells]⟩
theorem okDs_app {n : Nat} {xs ys : List D} (h1 : okDs n xs = true) (h2 : okDs n ys = true) : okDs n (xs ++ ys) = true := by
  simp only [okDs, Bool.and_eq_true, List.all_append, flat_app] at *
  exact ⟨⟨h1.1, h2.1⟩, h1.2, h2.2⟩
theorem tokDs_inj {a b : List Tok} (h : tokDs a = tokDs b) : a = b := by
  induction a generalizing b with
  | nil => cases b with
    | nil => rfl
    | cons => simp [tokDs] at h
  | cons x a ih => cases b with
    | nil => simp [tokDs] at h
    | cons y b =>
      simp only [tokDs, List.map_cons, List.cons.injEq, tokD, D.agg.injEq, D.int.injEq, true_and, and_true] at h
      rw [ih h.2, show x = y from Prod.ext h.1.1 h.1.2]

def arnd (k : Int) (l : List Tok) : List Tok := if k = 0 ∨ k = 1 then l else (2, 13) :: (l ++ [(2, 14)])
def comb2 (k s : Int) : List (Int × List Tok) → List Tok
  | [a] => if k = 2 then (2, s) :: a.2 else (2, s) :: (2, 12) :: a.2
  | [a, b] => arnd a.1 a.2 ++ (2, s) :: b.2
  | _ => []
def combT (k s n : Int) (xs : List Int) (L : List (Int × List Tok)) : List Tok :=
  if k = 0 then xs.map fun x => (0, x) else if k = 1 then [(1, n)] else comb2 k s L
mutual
def toksT : Tr → List Tok | .mk k s n xs ks => combT k s n xs (toksTs ks)
def toksTs : List Tr → List (Int × List Tok)
  | [] => []
  | t :: ts => (t.k, toksT t) :: toksTs ts
end

/-- The tokens of a node, as it lies there. -/
def tokP (I : Ids) : Nat → D → List Tok
  | _, .agg [.ints _ xs] => xs.map fun x => (0, x)
  | _, .agg [.int _ n] => [(1, n)]
  | ty, .agg [.int _ s, .iface t1 d1] => if ty = I.n2 then (2, s) :: tokP I t1 d1 else (2, s) :: (2, 12) :: tokP I t1 d1
  | _, .agg [.int _ s, .iface t1 d1, .iface t2 d2] => (if t1 = I.n0 ∨ t1 = I.n1 then tokP I t1 d1 else (2, 13) :: (tokP I t1 d1 ++ [(2, 14)])) ++ (2, s) :: tokP I t2 d2
  | _, _ => []
termination_by _ d => SizeOf.sizeOf d

def opTk (I : Ids) (t1 : Nat) (d1 : D) : List Tok := if t1 = I.n0 ∨ t1 = I.n1 then tokP I t1 d1 else (2, 13) :: (tokP I t1 d1 ++ [(2, 14)])
def sgnT (xs : List Int) : List Tok := xs.map fun x => (2, x)
def numT (xs : List Int) : List Tok := xs.map fun x => (0, x)

/-- A node whose parts are nodes, as it lies there. -/
def nodeW (I : Ids) : Nat → D → Bool
  | ty, .agg [.ints k xs] => decide (ty = I.n0) && k == .i64 && decide (xs.length ≤ 40)
  | ty, .agg [.int k _] => decide (ty = I.n1) && k == .i64
  | ty, .agg [.int k _, .iface t1 d1] => (decide (ty = I.n2) || decide (ty = I.n4)) && k == .i64 && nodeW I t1 d1
  | ty, .agg [.int k _, .iface t1 d1, .iface t2 d2] => decide (ty = I.n3) && k == .i64 && nodeW I t1 d1 && nodeW I t2 d2
  | _, _ => false
termination_by _ d => SizeOf.sizeOf d

/-- Types of nodes that are apart. -/
def Ids.apart (I : Ids) : Bool := decide (I.n0 ≠ I.n1) && decide (I.n0 ≠ I.n2) && decide (I.n0 ≠ I.n3) && decide (I.n0 ≠ I.n4) && decide (I.n1 ≠ I.n2) && decide (I.n1 ≠ I.n3) && decide (I.n1 ≠ I.n4) && decide (I.n2 ≠ I.n3) && decide (I.n2 ≠ I.n4) && decide (I.n3 ≠ I.n4)

theorem tyN_simple {I : Ids} (hI : I.apart = true) {k : Int} (hk : 0 ≤ k ∧ k ≤ 4) : (tyN I k = I.n0 ∨ tyN I k = I.n1) ↔ (k = 0 ∨ k = 1) := by
  simp only [Ids.apart, Bool.and_eq_true, decide_eq_true_eq] at hI
  obtain rfl | rfl | rfl | rfl | rfl : k = 0 ∨ k = 1 ∨ k = 2 ∨ k = 3 ∨ k = 4 := by omega
  all_goals simp [tyN]
  all_goals omega

theorem tokP_pay {I : Ids} (hI : I.apart = true) : ∀ (d : Nat) (t : Tr), validT d t = true → tokP I (tyN I t.k) (payT I t) = toksT t ∧ nodeW I (tyN I t.k) (payT I t) = true ∧ 0 ≤ t.k ∧ t.k ≤ 4 ∧ (toksT t).length + 3 ≤ 43 * 2 ^ d
  | 0, t, h => by simp [validT] at h
  | d + 1, .mk k s n xs ks, h => by
    rw [validT] at h
    simp only [Bool.and_eq_true, decide_eq_true_eq, List.all_eq_true] at h
    obtain ⟨⟨⟨hb, hl⟩, hp⟩, ha⟩ := h
    have hne := hI
    simp only [Ids.apart, Bool.and_eq_true, decide_eq_true_eq] at hne
    have hpow : 43 * 2 ^ (d + 1) = 2 * (43 * 2 ^ d) := by rw [Nat.pow_succ]; omega
    have hpos : 1 ≤ 2 ^ d := Nat.one_le_two_pow
    have h5 : k = 0 ∨ k = 1 ∨ k = 2 ∨ k = 3 ∨ k = 4 := by
      by_cases h0 : k = 0
      · omega
      by_cases h1 : k = 1
      · omega
      by_cases h2 : k = 2
      · omega
      by_cases h3 : k = 3
      · omega
      by_cases h4 : k = 4
      · omega
      unfold partOk at hp
      rw [beq_eq_false_iff_ne.2 h0, beq_eq_false_iff_ne.2 h1, beq_eq_false_iff_ne.2 h2, beq_eq_false_iff_ne.2 h3, beq_eq_false_iff_ne.2 h4] at hp
      cases hp
    rcases h5 with rfl | rfl | rfl | rfl | rfl
    · have h40 : xs.length ≤ 40 := by
        have : numsOk xs = true := hp
        simp only [numsOk, Bool.and_eq_true, decide_eq_true_eq] at this
        exact this.1.2
      refine ⟨?_, ?_, by simp [Tr.k], by simp [Tr.k], ?_⟩
      · rw [payT, if_pos rfl, tokP, toksT, combT, if_pos rfl]
      · rw [payT, if_pos rfl, nodeW]
        simp [tyN, Tr.k, h40]
      · rw [toksT, combT, if_pos rfl]
        simp
        omega
    · refine ⟨?_, ?_, by simp [Tr.k], by simp [Tr.k], ?_⟩
      · rw [payT, if_neg (by decide), if_pos rfl, tokP, toksT, combT, if_neg (by decide), if_pos rfl]
      · rw [payT, if_neg (by decide), if_pos rfl, nodeW]
        simp [tyN, Tr.k]
      · rw [toksT, combT, if_neg (by decide), if_pos rfl]
        simp
        omega
    · obtain ⟨a, rfl⟩ : ∃ a, ks = [a] := List.length_eq_one_iff.1 hl
      obtain ⟨i1, i2, i3, i4, i5⟩ := tokP_pay hI d a (ha a (by simp))
      refine ⟨?_, ?_, by simp [Tr.k], by simp [Tr.k], ?_⟩
      · rw [payT, if_neg (by decide), if_neg (by decide), payTs, payTs, toksT, toksTs, toksTs, combT, if_neg (by decide), if_neg (by decide), comb2, tokP, i1]
        simp [tyN, Tr.k]
      · rw [payT, if_neg (by decide), if_neg (by decide), payTs, payTs, nodeW, i2]
        simp [tyN, Tr.k]
      · rw [toksT, toksTs, toksTs, combT, if_neg (by decide), if_neg (by decide), comb2]
        simp
        omega
    · obtain ⟨a, b, rfl⟩ : ∃ a b, ks = [a, b] := by match ks, hl with | [a, b], _ => exact ⟨a, b, rfl⟩
      obtain ⟨i1, i2, i3, i4, i5⟩ := tokP_pay hI d a (ha a (by simp))
      obtain ⟨j1, j2, j3, j4, j5⟩ := tokP_pay hI d b (ha b (by simp))
      refine ⟨?_, ?_, by simp [Tr.k], by simp [Tr.k], ?_⟩
      · rw [payT, if_neg (by decide), if_neg (by decide), payTs, payTs, payTs, toksT, toksTs, toksTs, toksTs, combT, if_neg (by decide), if_neg (by decide), comb2, arnd, tokP, i1, j1]
        simp only [tyN_simple hI ⟨i3, i4⟩]
      · rw [payT, if_neg (by decide), if_neg (by decide), payTs, payTs, payTs, nodeW, i2, j2]
        simp [tyN, Tr.k]
      · rw [toksT, toksTs, toksTs, toksTs, combT, if_neg (by decide), if_neg (by decide), comb2, arnd]
        simp only []
        split <;> simp <;> omega
    · obtain ⟨a, rfl⟩ : ∃ a, ks = [a] := List.length_eq_one_iff.1 hl
      obtain ⟨i1, i2, i3, i4, i5⟩ := tokP_pay hI d a (ha a (by simp))
      refine ⟨?_, ?_, by simp [Tr.k], by simp [Tr.k], ?_⟩
      · rw [payT, if_neg (by decide), if_neg (by decide), payTs, payTs, toksT, toksTs, toksTs, combT, if_neg (by decide), if_neg (by decide), comb2, tokP, i1]
        simp [tyN, Tr.k]
        omega
      · rw [payT, if_neg (by decide), if_neg (by decide), payTs, payTs, nodeW, i2]
        simp [tyN, Tr.k]
      · rw [toksT, toksTs, toksTs, combT, if_neg (by decide), if_neg (by decide), comb2]
        simp
        omega
theorem fits16 {n : Nat} (h : n ≤ 4398046511104) : fits n 16 = true := by simp [fits]; omega
theorem tokD_get {f : Int → Tok} {xs : List Int} {j : Nat} (h : j < xs.length) (hl : j < (tokDs (xs.map f)).length) : (tokDs (xs.map f))[j] = tokD (f (xs.getD j 0)) := by
  simp only [tokDs, List.getElem_map, List.getD_eq_getElem?_getD, List.getElem?_eq_getElem h, Option.getD_some]
theorem le20 {n : Nat} (h : n ≤ 1048576) : (decide ((0 : Int) ≤ ((n : Nat) : Int)) && decide (((n : Nat) : Int) ≤ ((n : Nat) : Int)) && decide (((n : Nat) : Int) ≤ 1152921504606846976) && decide (((16 : Nat) : Int) * ((n : Nat) : Int) ≤ 281474976710656)) = true := by
  simp only [Bool.and_eq_true, decide_eq_true_eq]; omega
theorem sz_le1 (t : Nat) (s : Int) (d : D) : SizeOf.sizeOf d + 1 < SizeOf.sizeOf (D.agg [.int .i64 s, .iface t d]) := by
  simp; omega
theorem sz_le2 (t t2 : Nat) (s : Int) (d d2 : D) : SizeOf.sizeOf d + SizeOf.sizeOf d2 + 1 < SizeOf.sizeOf (D.agg [.int .i64 s, .iface t d, .iface t2 d2]) := by
  simp; omega
noncomputable def toksB (xs : List D) : Bool := @decide (∃ ts, xs = tokDs ts) (Classical.propDecidable _)
theorem toksB_iff {xs : List D} : toksB xs = true ↔ ∃ ts, xs = tokDs ts := by unfold toksB; exact @decide_eq_true_iff _ (Classical.propDecidable _)
theorem toksB_tokDs (ts : List Tok) : toksB (tokDs ts) = true := toksB_iff.2 ⟨ts, rfl⟩
noncomputable def toksEq (xs ys : List D) : Bool := @decide (xs = ys) (Classical.propDecidable _)
theorem toksEq_iff {xs ys : List D} : toksEq xs ys = true ↔ xs = ys := by unfold toksEq; exact @decide_eq_true_iff _ (Classical.propDecidable _)
theorem toksEq_tok (a b : List Tok) : toksEq (tokDs a) (tokDs b) = decide (a = b) := by
  by_cases h : a = b
  · subst h; simp [toksEq_iff.2 rfl]
  · rw [decide_eq_false h]
    cases hc : toksEq (tokDs a) (tokDs b) with
    | false => rfl
    | true => exact absurd (tokDs_inj (toksEq_iff.1 hc)) h
theorem tok_view {ts : List Tok} {i : Nat} (h : i < ts.length) : okS [.int .i64, .int .i64] (tokDs ts) i = true ∧ cellI (tokDs ts) i 0 = ts[i].1 ∧ cellI (tokDs ts) i 1 = ts[i].2 := by
  have e : (tokDs ts)[i]? = some (tokD ts[i]) := by simp [tokDs, h]
  simp only [okS, e, cellI, cellAt]
  simp [tokD, D.cells, isVs, isV, datI]
theorem toksT_len {t : Tr} (h : validT 8 t = true) : (toksT t).length ≤ 11005 := by
  have := (tokP_pay (I := ⟨0, 1, 2, 3, 4⟩) (by decide) 8 t h).2.2.2.2
  omega
theorem partOk_kind {k s n : Int} {xs : List Int} (hp : partOk k s n xs = true) : k = 0 ∨ k = 1 ∨ k = 2 ∨ k = 3 ∨ k = 4 := by
  by_cases h0 : k = 0
  · omega
  by_cases h1 : k = 1
  · omega
  by_cases h2 : k = 2
  · omega
  by_cases h3 : k = 3
  · omega
  by_cases h4 : k = 4
  · omega
  unfold partOk at hp
  rw [beq_eq_false_iff_ne.2 h0, beq_eq_false_iff_ne.2 h1, beq_eq_false_iff_ne.2 h2, beq_eq_false_iff_ne.2 h3, beq_eq_false_iff_ne.2 h4] at hp
  cases hp
theorem toksT0 (s n : Int) (xs : List Int) (ks : List Tr) : toksT (.mk 0 s n xs ks) = numT xs := by rw [toksT, combT, if_pos rfl]; rfl
theorem toksT1 (s n : Int) (xs : List Int) (ks : List Tr) : toksT (.mk 1 s n xs ks) = [(1, n)] := by rw [toksT, combT, if_neg (by decide), if_pos rfl]
theorem toksT2 (s n : Int) (xs : List Int) (a : Tr) : toksT (.mk 2 s n xs [a]) = (2, s) :: toksT a := by rw [toksT, toksTs, toksTs, combT, if_neg (by decide), if_neg (by decide), comb2, if_pos rfl]
theorem toksT3 (s n : Int) (xs : List Int) (a b : Tr) : toksT (.mk 3 s n xs [a, b]) = arnd a.k (toksT a) ++ (2, s) :: toksT b := by rw [toksT, toksTs, toksTs, toksTs, combT, if_neg (by decide), if_neg (by decide), comb2]
theorem toksT4 (s n : Int) (xs : List Int) (a : Tr) : toksT (.mk 4 s n xs [a]) = (2, s) :: (2, 12) :: toksT a := by rw [toksT, toksTs, toksTs, combT, if_neg (by decide), if_neg (by decide), comb2, if_neg (by decide)]
theorem numT_take {xs : List Int} {j : Nat} (h : j < xs.length) : tokDs (numT (xs.take j)) ++ [.agg [.int .i64 0, .int .i64 (xs.getD j 0)]] = tokDs (numT (xs.take (j + 1))) := by
  have e : xs.getD j 0 = xs[j] := by simp [h]
  rw [e, List.take_succ_eq_append_getElem h, numT, numT, List.map_append, tokDs, tokDs, List.map_append]
  rfl
end Go.Ab
namespace Go.Ab
/-! Valid tokens. -/
def tokV (k v : Int) : Bool := bif k == 0 then numB v else bif k == 1 then decide (0 ≤ v) && decide (v < 4) else bif k == 2 then decide (0 ≤ v) && decide (v < 15) else false
def tokVD : D → Bool
  | .agg [.int _ k, .int _ v] => tokV k v
  | _ => false
def allK (xs : List D) : Bool := xs.all tokVD
theorem allK_tokDs (ts : List Tok) : allK (tokDs ts) = ts.all fun t => tokV t.1 t.2 := by
  unfold allK tokDs
  rw [List.all_map]
  rfl
def badKF : List D → Nat → Int
  | [], _ => -1
  | x :: xs, j => bif tokVD x then badKF xs (j + 1) else (j : Int)
def badK (xs : List D) : Int := badKF xs 0
theorem badKF_neg : ∀ (xs : List D) (j : Nat), decide (badKF xs j ≥ 0) = !(xs.all tokVD)
  | [], _ => rfl
  | x :: xs, j => by
    rw [badKF, List.all_cons]
    cases tokVD x with
    | true => rw [cond_true, Bool.true_and]; exact badKF_neg xs (j + 1)
    | false => rw [cond_false, decide_eq_true (by omega)]; rfl
theorem tokVD_get {ts : List Tok} {j : Nat} (h : j < ts.length) : tokVD ((tokDs ts)[j]'(by rw [tokDs_length]; exact h)) = tokV ts[j].1 ts[j].2 := by
  simp only [tokDs, List.getElem_map]
  rfl
def szQ (xs : List D) (l : Int) : Int := bif decide (IntKind.wrap .i64 (l - ((xs.length : Nat) : Int)) < 0) then -1 else IntKind.wrap .i64 (l - ((xs.length : Nat) : Int))
theorem szQ_len {xs : List D} (hx : xs.length < 9223372036854775808) (h : ¬ szQ xs 1048576 < 0) : xs.length ≤ 1048576 := by
  have hw : IntKind.wrap .i64 (1048576 - ((xs.length : Nat) : Int)) = 1048576 - xs.length := wS (by omega) (by omega)
  unfold szQ at h
  rw [hw] at h
  by_cases hd : (1048576 : Int) - (xs.length : Int) < 0
  · simp [hd] at h
  · omega
def signsS : ByteArray := ByteArray.mk #[43, 45, 42, 38, 124, 61, 60, 37, 35, 33, 44, 64, 47, 40, 41]
theorem signsS_size : IntKind.wrap .i64 ((signsS.size : Int) - 1) = 14 := by decide
theorem tokChoice {α : Type} (k v m : Int) (hm : m = 14) (no yes : α) : (bif ((k : Int) == 0) then (bif (!(decide ((-1000000) ≤ v) && decide (v ≤ 1000000))) then no else (bif ((k : Int) == 1) then (bif (!(decide (0 ≤ v) && decide (v ≤ 3))) then no else (bif ((k : Int) == 2) then (bif (!(decide (0 ≤ v) && decide (v ≤ m))) then no else (bif (!(decide (0 ≤ k) && decide (k ≤ 2))) then no else yes)) else (bif (!(decide (0 ≤ k) && decide (k ≤ 2))) then no else yes))) else (bif ((k : Int) == 2) then (bif (!(decide (0 ≤ v) && decide (v ≤ m))) then no else (bif (!(decide (0 ≤ k) && decide (k ≤ 2))) then no else yes)) else (bif (!(decide (0 ≤ k) && decide (k ≤ 2))) then no else yes)))) else (bif ((k : Int) == 1) then (bif (!(decide (0 ≤ v) && decide (v ≤ 3))) then no else (bif ((k : Int) == 2) then (bif (!(decide (0 ≤ v) && decide (v ≤ m))) then no else (bif (!(decide (0 ≤ k) && decide (k ≤ 2))) then no else yes)) else (bif (!(decide (0 ≤ k) && decide (k ≤ 2))) then no else yes))) else (bif ((k : Int) == 2) then (bif (!(decide (0 ≤ v) && decide (v ≤ m))) then no else (bif (!(decide (0 ≤ k) && decide (k ≤ 2))) then no else yes)) else (bif (!(decide (0 ≤ k) && decide (k ≤ 2))) then no else yes)))) = bif tokV k v then yes else no := by
  subst hm
  have e3 : decide (v ≤ 3) = decide (v < 4) := decide_eq_decide.2 (by omega)
  have e14 : decide (v ≤ 14) = decide (v < 15) := decide_eq_decide.2 (by omega)
  rw [e3, e14]
  by_cases h0 : k = 0
  · subst h0
    have : tokV 0 v = (decide ((-1000000) ≤ v) && decide (v ≤ 1000000)) := rfl
    rw [this]
    cases decide ((-1000000) ≤ v) && decide (v ≤ 1000000) <;> rfl
  by_cases h1 : k = 1
  · subst h1
    have : tokV 1 v = (decide (0 ≤ v) && decide (v < 4)) := rfl
    rw [this]
    cases decide (0 ≤ v) && decide (v < 4) <;> rfl
  by_cases h2 : k = 2
  · subst h2
    have : tokV 2 v = (decide (0 ≤ v) && decide (v < 15)) := rfl
    rw [this]
    cases decide (0 ≤ v) && decide (v < 15) <;> rfl
  have hk : (decide (0 ≤ k) && decide (k ≤ 2)) = false := by
    rw [Bool.eq_false_iff]
    simp only [ne_eq, Bool.and_eq_true, decide_eq_true_eq]
    omega
  unfold tokV
  rw [beq_eq_false_iff_ne.2 h0, beq_eq_false_iff_ne.2 h1, beq_eq_false_iff_ne.2 h2, hk]
  rfl
end Go.Ab
namespace Go.Ab
/-! Reading tokens from right to left: the list is turned. -/
noncomputable def toksOf (xs : List D) : List Tok := @dite _ (∃ ts, xs = tokDs ts) (Classical.propDecidable _) (fun h => h.choose) (fun _ => [])
theorem toksOf_tokDs (ts : List Tok) : toksOf (tokDs ts) = ts := by
  unfold toksOf
  have h : ∃ us, tokDs ts = tokDs us := ⟨ts, rfl⟩
  rw [dif_pos h]
  exact (tokDs_inj h.choose_spec).symm
noncomputable def revK (xs : List D) : List Tok := (toksOf xs).reverse
def unK (r : List Tok) : List D := tokDs r.reverse
theorem revK_unK (r : List Tok) : revK (unK r) = r := by rw [revK, unK, toksOf_tokDs, List.reverse_reverse]
theorem unK_of {xs : List D} (h : toksB xs = true) : ∃ r, xs = unK r := by
  obtain ⟨ts, rfl⟩ := toksB_iff.1 h
  exact ⟨ts.reverse, by rw [unK, List.reverse_reverse]⟩
theorem toksB_unK (r : List Tok) : toksB (unK r) = true := toksB_tokDs _
theorem unK_length (r : List Tok) : (unK r).length = r.length := by rw [unK, tokDs_length, List.length_reverse]
theorem unK_tail (t : Tok) (r : List Tok) : (unK (t :: r)).take r.length = unK r := by
  have h : unK (t :: r) = unK r ++ [tokD t] := by simp [unK, tokDs]
  rw [h, ← unK_length r, List.take_left]
theorem unK_view (t : Tok) (r : List Tok) : okS [.int .i64, .int .i64] (unK (t :: r)) r.length = true ∧ cellI (unK (t :: r)) r.length 0 = t.1 ∧ cellI (unK (t :: r)) r.length 1 = t.2 := by
  have h : r.length < (t :: r).reverse.length := by simp
  obtain ⟨h1, h2, h3⟩ := tok_view h
  have e : (t :: r).reverse[r.length] = t := by simp
  rw [e] at h2 h3
  exact ⟨h1, h2, h3⟩

def zT : Tr := .mk 0 0 0 [] []
abbrev Rd := Tr × Bool × List Tok
def hdK : List Tok → Tok
  | [] => (0, 0)
  | t :: _ => t
def startR : List Tok → Bool
  | [] => true
  | (k, v) :: _ => k == 2 && v == 13
def opdR : List Tok → Bool
  | [] => false
  | (k, v) :: _ => k != 2 || v == 14
def signB : List Tok → Bool
  | [] => false
  | (k, _) :: _ => k == 2
def signV : List Tok → Int
  | [] => 0
  | (k, v) :: _ => bif k == 2 then v else 0
def signP : List Tok → List Tok
  | [] => []
  | (k, v) :: r => bif k == 2 then r else (k, v) :: r
def numsV (r : List Tok) : List Int := ((r.takeWhile fun t => t.1 == 0).map fun t => t.2).reverse
def numsP (r : List Tok) : List Tok := r.dropWhile fun t => t.1 == 0

mutual
def rdO : Nat → List Tok → Rd
  | 0, r => (zT, false, r)
  | _ + 1, [] => (zT, false, [])
  | f + 1, (k, v) :: r =>
    if k = 0 then (.mk 0 0 0 (numsV ((k, v) :: r)) [], true, numsP ((k, v) :: r))
    else if k = 1 then (.mk 1 0 v [] [], true, r)
    else if k = 2 ∧ v ≠ 14 then (zT, false, (k, v) :: r)
    else match rdE f r with
      | (_, false, r') => (zT, false, r')
      | (_, true, []) => (zT, false, [])
      | (t, true, _ :: r') => (t, true, r')
def rdF : Nat → List Tok → Tr → Rd
  | 0, r, _ => (zT, false, r)
  | f + 1, r, t =>
    if signB r = false then (zT, false, signP r)
    else if signV r = 12 then (.mk 4 (signV (signP r)) 0 [] [t], signB (signP r), signP (signP r))
    else if opdR (signP r) = false then (.mk 2 (signV r) 0 [] [t], true, signP r)
    else (.mk 3 (signV r) 0 [] [(rdO f (signP r)).1, t], (rdO f (signP r)).2.1, (rdO f (signP r)).2.2)
def rdE : Nat → List Tok → Rd
  | 0, r => (zT, false, r)
  | f + 1, r => rdL f (rdO f r)
def rdL : Nat → Rd → Rd
  | 0, x => x
  | f + 1, (t, ok, r) => if ok = true ∧ startR r = false then rdL f (rdF f r t) else (t, ok, r)
end

theorem signP_le (r : List Tok) : (signP r).length ≤ r.length ∧ (signB r = true → (signP r).length < r.length) := by
  cases r with
  | nil => exact ⟨Nat.le_refl _, fun h => by cases h⟩
  | cons t r =>
    obtain ⟨k, v⟩ := t
    simp only [signP, signB]
    cases k == 2 <;> simp
theorem numsP_le (r : List Tok) : (numsP r).length ≤ r.length := (List.dropWhile_sublist _).length_le

def LenA (x : Rd) (r : List Tok) : Prop := x.2.2.length ≤ r.length ∧ (x.2.1 = true → x.2.2.length < r.length)
theorem rd_len : ∀ f, (∀ r, LenA (rdO f r) r) ∧ (∀ r t, LenA (rdF f r t) r) ∧ (∀ r, LenA (rdE f r) r) ∧ (∀ t ok r, (rdL f (t, ok, r)).2.2.length ≤ r.length ∧ ((rdL f (t, ok, r)).2.1 = true → ok = true))
  | 0 => by
    refine ⟨fun r => ?_, fun r t => ?_, fun r => ?_, fun t ok r => ?_⟩
    · rw [rdO]; exact ⟨Nat.le_refl _, fun h => by cases h⟩
    · rw [rdF]; exact ⟨Nat.le_refl _, fun h => by cases h⟩
    · rw [rdE]; exact ⟨Nat.le_refl _, fun h => by cases h⟩
    · rw [rdL]; exact ⟨Nat.le_refl _, fun h => h⟩
  | f + 1 => by
    obtain ⟨iO, iF, iE, iL⟩ := rd_len f
    refine ⟨fun r => ?_, fun r t => ?_, fun r => ?_, fun t ok r => ?_⟩
    · cases r with
      | nil => rw [rdO]; exact ⟨Nat.le_refl _, fun h => by cases h⟩
      | cons a r =>
        obtain ⟨k, v⟩ := a
        rw [rdO]
        split
        · rename_i h0
          have h1 : numsP ((k, v) :: r) = numsP r := by simp [numsP, h0]
          have h2 := numsP_le r
          rw [h1]
          exact ⟨by simp; omega, fun _ => by simp; omega⟩
        split
        · exact ⟨by simp, fun _ => by simp⟩
        split
        · exact ⟨Nat.le_refl _, fun h => by cases h⟩
        have hE := iE r
        split
        · rename_i r' he
          rw [he] at hE
          exact ⟨by have := hE.1; simp at this ⊢; omega, fun h => by cases h⟩
        · exact ⟨by simp, fun h => by cases h⟩
        · rename_i t x r' he
          rw [he] at hE
          have := hE.1
          exact ⟨by simp at this ⊢; omega, fun _ => by simp at this ⊢; omega⟩
    · rw [rdF]
      have h1 := signP_le r
      have h2 := signP_le (signP r)
      split
      · exact ⟨h1.1, fun h => by cases h⟩
      rename_i hb
      have hb : signB r = true := by simpa using hb
      have h3 := h1.2 hb
      split
      · exact ⟨by show (signP (signP r)).length ≤ _; omega, fun _ => by show (signP (signP r)).length < _; omega⟩
      split
      · exact ⟨h1.1, fun _ => h3⟩
      have := iO (signP r)
      exact ⟨by have := this.1; show (rdO f (signP r)).2.2.length ≤ _; omega, fun _ => by have := this.1; show (rdO f (signP r)).2.2.length < _; omega⟩
    · rw [rdE]
      have h1 := iO r
      have h2 : (rdL f (rdO f r)).2.2.length ≤ (rdO f r).2.2.length ∧ ((rdL f (rdO f r)).2.1 = true → (rdO f r).2.1 = true) := iL _ _ _
      exact ⟨by have := h1.1; have := h2.1; omega, fun h => by have := h1.2 (h2.2 h); have := h2.1; omega⟩
    · rw [rdL]
      split
      · rename_i h
        have h1 := iF r t
        have h2 : (rdL f (rdF f r t)).2.2.length ≤ (rdF f r t).2.2.length ∧ ((rdL f (rdF f r t)).2.1 = true → (rdF f r t).2.1 = true) := iL _ _ _
        exact ⟨by have := h1.1; have := h2.1; omega, fun _ => h.1⟩
      · exact ⟨Nat.le_refl _, fun h => h⟩

/-- More fuel changes nothing. -/
theorem rd_stable : ∀ n, (∀ r f g, r.length ≤ n → 3 * n + 1 ≤ f → 3 * n + 1 ≤ g → rdO f r = rdO g r) ∧ (∀ r t f g, r.length ≤ n → 3 * n + 1 ≤ f → 3 * n + 1 ≤ g → rdF f r t = rdF g r t) ∧
    (∀ t ok r f g, r.length ≤ n → 3 * n + 2 ≤ f → 3 * n + 2 ≤ g → rdL f (t, ok, r) = rdL g (t, ok, r)) ∧ (∀ r f g, r.length ≤ n → 3 * n + 3 ≤ f → 3 * n + 3 ≤ g → rdE f r = rdE g r) := by
  intro n
  induction n using Nat.strongRecOn with
  | _ n ih =>
  have hO : ∀ r f g, r.length ≤ n → 3 * n + 1 ≤ f → 3 * n + 1 ≤ g → rdO f r = rdO g r := by
    intro r f g hl hf hg
    obtain ⟨f, rfl⟩ : ∃ k, f = k + 1 := ⟨f - 1, by omega⟩
    obtain ⟨g, rfl⟩ : ∃ k, g = k + 1 := ⟨g - 1, by omega⟩
    cases r with
    | nil => rw [rdO, rdO]
    | cons a r =>
      obtain ⟨k, v⟩ := a
      simp only [List.length_cons] at hl
      rw [rdO, rdO, (ih (n - 1) (by omega)).2.2.2 r f g (by omega) (by omega) (by omega)]
  have hF : ∀ r t f g, r.length ≤ n → 3 * n + 1 ≤ f → 3 * n + 1 ≤ g → rdF f r t = rdF g r t := by
    intro r t f g hl hf hg
    obtain ⟨f, rfl⟩ : ∃ k, f = k + 1 := ⟨f - 1, by omega⟩
    obtain ⟨g, rfl⟩ : ∃ k, g = k + 1 := ⟨g - 1, by omega⟩
    rw [rdF, rdF]
    by_cases hb : signB r = false
    · rw [if_pos hb, if_pos hb]
    · have h3 := (signP_le r).2 (by simpa using hb)
      rw [(ih (n - 1) (by omega)).1 (signP r) f g (by omega) (by omega) (by omega)]
  have hL : ∀ t ok r f g, r.length ≤ n → 3 * n + 2 ≤ f → 3 * n + 2 ≤ g → rdL f (t, ok, r) = rdL g (t, ok, r) := by
    intro t ok r f g hl hf hg
    obtain ⟨f, rfl⟩ : ∃ k, f = k + 1 := ⟨f - 1, by omega⟩
    obtain ⟨g, rfl⟩ : ∃ k, g = k + 1 := ⟨g - 1, by omega⟩
    rw [rdL, rdL]
    by_cases hc : ok = true ∧ startR r = false
    · rw [if_pos hc, if_pos hc, hF r t f g hl (by omega) (by omega)]
      have hlen := (rd_len g).2.1 r t
      by_cases hk : (rdF g r t).2.1 = true
      · have := hlen.2 hk
        exact (ih (n - 1) (by omega)).2.2.1 (rdF g r t).1 (rdF g r t).2.1 (rdF g r t).2.2 f g (by omega) (by omega) (by omega)
      · obtain ⟨f, rfl⟩ : ∃ k, f = k + 1 := ⟨f - 1, by omega⟩
        obtain ⟨g', rfl⟩ : ∃ k, g = k + 1 := ⟨g - 1, by omega⟩
        generalize rdF (g' + 1) r t = x at hk
        obtain ⟨a, b, c⟩ := x
        rw [rdL, rdL, if_neg (fun h => hk h.1), if_neg (fun h => hk h.1)]
    · rw [if_neg hc, if_neg hc]
  refine ⟨hO, hF, hL, fun r f g hl hf hg => ?_⟩
  obtain ⟨f, rfl⟩ : ∃ k, f = k + 1 := ⟨f - 1, by omega⟩
  obtain ⟨g, rfl⟩ : ∃ k, g = k + 1 := ⟨g - 1, by omega⟩
  rw [rdE, rdE, hO r f g hl (by omega) (by omega)]
  have := ((rd_len g).1 r).1
  exact hL (rdO g r).1 (rdO g r).2.1 (rdO g r).2.2 f g (by omega) (by omega) (by omega)

def readO (r : List Tok) : Rd := rdO 200 r
def readF (r : List Tok) (t : Tr) : Rd := rdF 200 r t
def readL (x : Rd) : Rd := rdL 200 x
def readE (r : List Tok) : Rd := rdE 200 r
theorem readO_nil : readO [] = (zT, false, []) := by unfold readO; rw [rdO]
theorem readO_cons (k v : Int) (r : List Tok) (h : r.length ≤ 60) : readO ((k, v) :: r) =
    if k = 0 then (.mk 0 0 0 (numsV ((k, v) :: r)) [], true, numsP ((k, v) :: r))
    else if k = 1 then (.mk 1 0 v [] [], true, r)
    else if k = 2 ∧ v ≠ 14 then (zT, false, (k, v) :: r)
    else match readE r with
      | (_, false, r') => (zT, false, r')
      | (_, true, []) => (zT, false, [])
      | (t, true, _ :: r') => (t, true, r') := by
  unfold readO readE
  rw [rdO, (rd_stable 60).2.2.2 r 199 200 h (by omega) (by omega)]
theorem readF_eq (r : List Tok) (t : Tr) (h : r.length ≤ 60) : readF r t =
    if signB r = false then (zT, false, signP r)
    else if signV r = 12 then (.mk 4 (signV (signP r)) 0 [] [t], signB (signP r), signP (signP r))
    else if opdR (signP r) = false then (.mk 2 (signV r) 0 [] [t], true, signP r)
    else (.mk 3 (signV r) 0 [] [(readO (signP r)).1, t], (readO (signP r)).2.1, (readO (signP r)).2.2) := by
  unfold readF readO
  have := (signP_le r).1
  rw [rdF, (rd_stable 60).1 (signP r) 199 200 (by omega) (by omega) (by omega)]
theorem readE_eq (r : List Tok) (h : r.length ≤ 60) : readE r = readL (readO r) := by
  unfold readE readL readO
  have h1 := ((rd_len 200).1 r).1
  rw [rdE, (rd_stable 60).1 r 199 200 h (by omega) (by omega)]
  exact (rd_stable 60).2.2.1 (rdO 200 r).1 (rdO 200 r).2.1 (rdO 200 r).2.2 199 200 (by omega) (by omega) (by omega)
theorem readL_eq (t : Tr) (ok : Bool) (r : List Tok) (h : r.length ≤ 60) : readL (t, ok, r) = if ok = true ∧ startR r = false then readL (readF r t) else (t, ok, r) := by
  unfold readL readF
  rw [rdL, (rd_stable 60).2.1 r t 199 200 h (by omega) (by omega)]
  have h1 := ((rd_len 200).2.1 r t).1
  rw [show rdL 199 (rdF 200 r t) = rdL 200 (rdF 200 r t) from (rd_stable 60).2.2.1 (rdF 200 r t).1 (rdF 200 r t).2.1 (rdF 200 r t).2.2 199 200 (by omega) (by omega) (by omega)]
theorem readO_len (r : List Tok) : LenA (readO r) r := (rd_len 200).1 r
theorem readF_len (r : List Tok) (t : Tr) : LenA (readF r t) r := (rd_len 200).2.1 r t
theorem readE_len (r : List Tok) : LenA (readE r) r := (rd_len 200).2.2.1 r
end Go.Ab
namespace Go.Ab
/-! Reading: what is bare, what parses. -/
noncomputable def bareO (r : List Tok) : Bool := (hdK r).1 == 1 || !((readO r).2.1)
noncomputable def parseB (r : List Tok) : Bool := (decide (r.length ≤ 40) && r.all fun t => tokV t.1 t.2) && (readE r).2.1 && (readE r).2.2.isEmpty && validT 8 (readE r).1
theorem unK_app (a b : List Tok) : unK (a ++ b) = unK b ++ unK a := by simp [unK, tokDs]
theorem allK_unK (r : List Tok) : allK (unK r) = r.all fun t => tokV t.1 t.2 := by rw [unK, allK_tokDs, List.all_reverse]
theorem unK_cut {a b : List Tok} : ((unK (a ++ b)).drop b.length).take ((a ++ b).length - b.length) = unK a := by
  rw [unK_app, ← unK_length b, List.drop_left, unK_length, List.length_append, show a.length + b.length - b.length = a.length by omega, ← unK_length a, List.take_length]
theorem unK_fst {a b : List Tok} : (unK (a ++ b)).take b.length = unK b := by
  rw [unK_app, ← unK_length b, List.take_left]
theorem unK_get {r : List Tok} {j : Nat} (h : j < r.length) : okS [.int .i64, .int .i64] (unK r) j = true ∧ cellI (unK r) j 0 = (r.reverse[j]'(by simpa using h)).1 ∧ cellI (unK r) j 1 = (r.reverse[j]'(by simpa using h)).2 :=
  tok_view (ts := r.reverse) (by simpa using h)
theorem okC_unK (t : Tok) (a r : List Tok) : okC (.int .i64) (unK (a ++ t :: r)) r.length 0 = true ∧ cellI (unK (a ++ t :: r)) r.length 0 = t.1 := by
  have h : r.length < (a ++ t :: r).length := by simp; omega
  obtain ⟨h1, h2, h3⟩ := unK_get h
  have e : (a ++ t :: r).reverse[r.length]'(by simp) = t := by simp
  rw [e] at h2
  refine ⟨?_, h2⟩
  have e2 : (unK (a ++ t :: r))[r.length]? = some (tokD t) := by
    have : (unK (a ++ t :: r)) = tokDs (a ++ t :: r).reverse := rfl
    rw [this, tokDs, List.getElem?_map]
    simp
  simp only [okC, cellAt, e2]
  simp [tokD, D.cells, isV]
theorem smT_valid : ∀ (d : Nat) (t : Tr), validT d t = true → smT 1048576 t = true
  | 0, t, h => by simp [validT] at h
  | d + 1, .mk k s n xs ks, h => by
    rw [validT] at h
    simp only [Bool.and_eq_true, decide_eq_true_eq, List.all_eq_true] at h
    obtain ⟨⟨⟨hb, hl⟩, hp⟩, ha⟩ := h
    have hk2 := kidN_le k
    have hx : xs.length ≤ 40 := by
      rcases partOk_kind hp with rfl | rfl | rfl | rfl | rfl
      · have : numsOk xs = true := hp
        simp only [numsOk, Bool.and_eq_true, decide_eq_true_eq] at this
        exact this.1.2
      all_goals
        simp [bareT] at hb
        simp [hb]
    have hks : ∀ ts : List Tr, (∀ t ∈ ts, smT 1048576 t = true) → smTs 1048576 ts = true := by
      intro ts
      induction ts with
      | nil => intro _; rfl
      | cons t ts ih => intro h; rw [smTs, h t (by simp), ih fun t ht => h t (by simp [ht])]; rfl
    rw [smT, decide_eq_true (by omega), decide_eq_true (by omega), hks ks fun t ht => smT_valid d t (ha t ht)]
    rfl
end Go.Ab
namespace Go.Ab
/-! Trees are read back from their tokens. -/
theorem revK_tokDs (l : List Tok) : revK (tokDs l) = l.reverse := by rw [revK, toksOf_tokDs]
def ctxOk : List Tok → Prop
  | [] => True
  | (k, v) :: _ => k = 2 ∧ v ≠ 14
theorem nums_read {xs : List Int} {ctx : List Tok} (h : ctxOk ctx) : numsV ((numT xs).reverse ++ ctx) = xs ∧ numsP ((numT xs).reverse ++ ctx) = ctx := by
  have ha : ∀ t ∈ (numT xs).reverse, (t.1 == 0) = true := by
    intro t ht
    simp only [numT, List.mem_reverse, List.mem_map] at ht
    obtain ⟨x, _, rfl⟩ := ht
    rfl
  have hb : ctx.takeWhile (fun t => t.1 == 0) = [] := by
    cases ctx with
    | nil => rfl
    | cons t ctx => obtain ⟨k, v⟩ := t; simp [List.takeWhile_cons, h.1]
  have hd : ctx.dropWhile (fun t => t.1 == 0) = ctx := by
    cases ctx with
    | nil => rfl
    | cons t ctx => obtain ⟨k, v⟩ := t; simp [List.dropWhile_cons, h.1]
  unfold numsV numsP
  rw [List.takeWhile_append_of_pos ha, hb, List.append_nil, List.dropWhile_append_of_pos ha, hd]
  refine ⟨?_, rfl⟩
  rw [List.map_reverse, List.reverse_reverse, numT, List.map_map]
  exact List.map_id xs
theorem opd_of_readO {r : List Tok} (h : (readO r).2.1 = true) (hl : r.length ≤ 60) : opdR r = true := by
  cases r with
  | nil => rw [readO_nil] at h; cases h
  | cons t r =>
    obtain ⟨k, v⟩ := t
    simp only [List.length_cons] at hl
    rw [readO_cons k v r (by omega)] at h
    by_cases h0 : k = 0
    · subst h0; rfl
    by_cases h1 : k = 1
    · subst h1; rfl
    by_cases h2 : k = 2 ∧ v ≠ 14
    · rw [if_neg h0, if_neg h1, if_pos h2] at h; cases h
    · show (k != 2 || v == 14) = true
      by_cases hk : k = 2
      · have : v = 14 := by
          by_cases hv : v = 14
          · exact hv
          · exact absurd ⟨hk, hv⟩ h2
        simp [this]
      · simp [hk]
theorem opd_ctx {ctx : List Tok} (h : ctxOk ctx) : opdR ctx = false := by
  cases ctx with
  | nil => rfl
  | cons t ctx =>
    obtain ⟨k, v⟩ := t
    show (k != 2 || v == 14) = false
    rw [h.1, show (v == 14) = false from beq_eq_false_iff_ne.2 h.2]
    rfl
theorem readL_sign {s : Int} {ctx : List Tok} {t : Tr} (h : s ≠ 13) (hl : ctx.length ≤ 59) : readL (t, true, (2, s) :: ctx) = readL (readF ((2, s) :: ctx) t) := by
  rw [readL_eq t true _ (by simp; omega), if_pos ⟨rfl, by show ((2 : Int) == 2 && s == 13) = false; rw [beq_eq_false_iff_ne.2 h]; rfl⟩]
theorem readL_start {t : Tr} {ctx : List Tok} (hl : ctx.length ≤ 59) : readL (t, true, (2, 13) :: ctx) = (t, true, (2, 13) :: ctx) := by
  rw [readL_eq t true _ (by simp; omega), if_neg (fun h => by cases h.2)]
theorem readL_nil {t : Tr} : readL (t, true, []) = (t, true, []) := by
  rw [readL_eq t true _ (by simp), if_neg (fun h => by cases h.2)]
theorem len_nil {xs : List Int} (h : decide (xs.length = 0) = true) : xs = [] := List.length_eq_zero_iff.1 (of_decide_eq_true h)

/-- An operand in parentheses. -/
theorem read_paren {a : Tr} {ctx : List Tok} (hl : ctx.length + (toksT a).length ≤ 57) (ih : readL (readO ((toksT a).reverse ++ ((2, 13) :: ctx))) = readL (a, true, (2, 13) :: ctx)) :
    readO ((2, 14) :: ((toksT a).reverse ++ ((2, 13) :: ctx))) = (a, true, ctx) := by
  rw [readO_cons 2 14 _ (by simp; omega), if_neg (by decide), if_neg (by decide), if_neg (by decide), readE_eq _ (by simp; omega), ih, readL_start (by omega)]

theorem read_tree : ∀ (d : Nat) (t : Tr) (ctx : List Tok), validT d t = true → ctxOk ctx → ctx.length + (toksT t).length ≤ 50 →
    readL (readO ((toksT t).reverse ++ ctx)) = readL (t, true, ctx) ∧ ((t.k = 0 ∨ t.k = 1) → readO ((toksT t).reverse ++ ctx) = (t, true, ctx))
  | 0, t, _, h, _, _ => by simp [validT] at h
  | d + 1, .mk k s n xs ks, ctx, h, hc, hl => by
    rw [validT] at h
    simp only [Bool.and_eq_true, decide_eq_true_eq, List.all_eq_true] at h
    obtain ⟨⟨⟨hb, hk⟩, hp⟩, ha⟩ := h
    rcases partOk_kind hp with rfl | rfl | rfl | rfl | rfl
    · have hks : ks = [] := List.length_eq_zero_iff.1 hk
      subst hks
      have hx : xs ≠ [] := by
        have : numsOk xs = true := hp
        simp only [numsOk, Bool.and_eq_true, decide_eq_true_eq] at this
        intro e; rw [e] at this; simp at this
      have hsn : s = 0 ∧ n = 0 := by simpa [bareT] using hb
      obtain ⟨rfl, rfl⟩ := hsn
      obtain ⟨e1, e2⟩ := nums_read (xs := xs) hc
      rw [toksT0] at hl ⊢
      have key : readO ((numT xs).reverse ++ ctx) = (.mk 0 0 0 xs [], true, ctx) := by
        cases hr : (numT xs).reverse with
        | nil => simp [numT, hx] at hr
        | cons t r =>
          have hm : t ∈ (numT xs).reverse := by rw [hr]; simp
          simp only [numT, List.mem_reverse, List.mem_map] at hm
          obtain ⟨x, _, rfl⟩ := hm
          have hlen : (numT xs).length = r.length + 1 := by rw [← List.length_reverse, hr]; simp
          rw [hr, List.cons_append] at e1 e2
          rw [List.cons_append, readO_cons 0 x _ (by simp; omega), if_pos rfl, e1, e2]
      exact ⟨by rw [key], fun _ => key⟩
    · have hks : ks = [] := List.length_eq_zero_iff.1 hk
      subst hks
      have hsn : s = 0 ∧ xs = [] := by simpa [bareT] using hb
      obtain ⟨rfl, rfl⟩ := hsn
      rw [toksT1] at hl ⊢
      simp only [List.length_singleton] at hl
      have key : readO ([((1 : Int), n)].reverse ++ ctx) = (.mk 1 0 n [] [], true, ctx) := by
        show readO ((1, n) :: ctx) = _
        rw [readO_cons 1 n _ (by omega), if_neg (by decide), if_pos rfl]
      exact ⟨by rw [key], fun _ => key⟩
    · obtain ⟨a, rfl⟩ : ∃ a, ks = [a] := List.length_eq_one_iff.1 hk
      have hsn : n = 0 ∧ xs = [] := by simpa [bareT] using hb
      obtain ⟨rfl, rfl⟩ := hsn
      have hs : ((s = 1 ∨ s = 8) ∨ s = 9) ∨ s = 10 := by simpa [partOk, oneOk] using hp
      rw [toksT2] at hl ⊢
      simp only [List.length_cons] at hl
      have hi := (read_tree d a ((2, s) :: ctx) (ha a (by simp)) ⟨rfl, by omega⟩ (by simp; omega)).1
      refine ⟨?_, fun h => by simp [Tr.k] at h⟩
      rw [List.reverse_cons, List.append_assoc, List.singleton_append, hi, readL_sign (by omega) (by omega), readF_eq _ _ (by simp; omega)]
      rw [show signB ((2, s) :: ctx) = true from rfl, show signV ((2, s) :: ctx) = s from rfl, show signP ((2, s) :: ctx) = ctx from rfl, if_neg (by decide), if_neg (by omega), if_pos (opd_ctx hc)]
    · obtain ⟨a, b, rfl⟩ : ∃ a b, ks = [a, b] := by match ks, hk with | [a, b], _ => exact ⟨a, b, rfl⟩
      have hsn : n = 0 ∧ xs = [] := by simpa [bareT] using hb
      obtain ⟨rfl, rfl⟩ := hsn
      have hs : s ≠ 12 ∧ s ≠ 13 ∧ s ≠ 14 := by
        have : twoOk s = true := hp
        simp only [twoOk, sgOk, Bool.or_eq_true, beq_iff_eq, Bool.and_eq_true, decide_eq_true_eq] at this
        omega
      rw [toksT3] at hl ⊢
      simp only [List.length_append, List.length_cons] at hl
      have hla : (toksT a).length ≤ (arnd a.k (toksT a)).length := by
        rw [arnd]; split
        · omega
        · simp; omega
      have hO : readO ((arnd a.k (toksT a)).reverse ++ ctx) = (a, true, ctx) := by
        by_cases hs : a.k = 0 ∨ a.k = 1
        · have e : arnd a.k (toksT a) = toksT a := by rw [arnd, if_pos hs]
          rw [e]
          exact (read_tree d a ctx (ha a (by simp)) hc (by omega)).2 hs
        · have e : arnd a.k (toksT a) = (2, 13) :: (toksT a ++ [(2, 14)]) := by rw [arnd, if_neg hs]
          rw [e] at hl
          simp only [List.length_cons, List.length_append] at hl
          have hi := (read_tree d a ((2, 13) :: ctx) (ha a (by simp)) ⟨rfl, by omega⟩ (by simp; omega)).1
          have := read_paren (a := a) (ctx := ctx) (by omega) hi
          rw [e]
          simpa using this
      have hi := (read_tree d b ((2, s) :: ((arnd a.k (toksT a)).reverse ++ ctx)) (ha b (by simp)) ⟨rfl, by omega⟩ (by simp; omega)).1
      have hopd := opd_of_readO (r := (arnd a.k (toksT a)).reverse ++ ctx) (by rw [hO]) (by simp; omega)
      refine ⟨?_, fun h => by simp [Tr.k] at h⟩
      have e : (arnd a.k (toksT a) ++ (2, s) :: toksT b).reverse ++ ctx = (toksT b).reverse ++ ((2, s) :: ((arnd a.k (toksT a)).reverse ++ ctx)) := by simp
      rw [e, hi, readL_sign (by omega) (by simp; omega), readF_eq _ _ (by simp; omega)]
      rw [show ∀ r, signB ((2, s) :: r) = true from fun _ => rfl, show ∀ r, signV ((2, s) :: r) = s from fun _ => rfl, show ∀ r, signP ((2, s) :: r) = r from fun _ => rfl, if_neg (by decide), if_neg (by omega), hopd, if_neg (by decide), hO]
    · obtain ⟨a, rfl⟩ : ∃ a, ks = [a] := List.length_eq_one_iff.1 hk
      have hsn : n = 0 ∧ xs = [] := by simpa [bareT] using hb
      obtain ⟨rfl, rfl⟩ := hsn
      rw [toksT4] at hl ⊢
      simp only [List.length_cons] at hl
      have hi := (read_tree d a ((2, 12) :: (2, s) :: ctx) (ha a (by simp)) ⟨rfl, by omega⟩ (by simp; omega)).1
      refine ⟨?_, fun h => by simp [Tr.k] at h⟩
      have e : ((2, s) :: (2, 12) :: toksT a).reverse ++ ctx = (toksT a).reverse ++ ((2, 12) :: (2, s) :: ctx) := by simp
      rw [e, hi, readL_sign (by omega) (by simp; omega), readF_eq _ _ (by simp; omega)]
      rfl

theorem toks_tokV : ∀ (d : Nat) (t : Tr), validT d t = true → ((toksT t).all fun t => tokV t.1 t.2) = true
  | 0, t, h => by simp [validT] at h
  | d + 1, .mk k s n xs ks, h => by
    rw [validT] at h
    simp only [Bool.and_eq_true, decide_eq_true_eq, List.all_eq_true] at h
    obtain ⟨⟨⟨hb, hk⟩, hp⟩, ha⟩ := h
    have sg : ∀ s : Int, 0 ≤ s → s < 15 → tokV 2 s = true := fun s h1 h2 => by
      show (decide (0 ≤ s) && decide (s < 15)) = true
      rw [decide_eq_true h1, decide_eq_true h2]; rfl
    rcases partOk_kind hp with rfl | rfl | rfl | rfl | rfl
    · have : numsOk xs = true := hp
      simp only [numsOk, Bool.and_eq_true, decide_eq_true_eq, List.all_eq_true] at this
      rw [toksT0, List.all_eq_true]
      intro t ht
      simp only [numT, List.mem_map] at ht
      obtain ⟨x, hx, rfl⟩ := ht
      exact this.2 x hx
    · have : nameOk n = true := hp
      rw [toksT1]
      simp only [List.all_cons, List.all_nil, Bool.and_true]
      exact this
    · obtain ⟨a, rfl⟩ : ∃ a, ks = [a] := List.length_eq_one_iff.1 hk
      have hs : ((s = 1 ∨ s = 8) ∨ s = 9) ∨ s = 10 := by simpa [partOk, oneOk] using hp
      rw [toksT2, List.all_cons, sg s (by omega) (by omega), toks_tokV d a (ha a (by simp))]; rfl
    · obtain ⟨a, b, rfl⟩ : ∃ a b, ks = [a, b] := by match ks, hk with | [a, b], _ => exact ⟨a, b, rfl⟩
      have hs : 0 ≤ s ∧ s < 15 := by
        have : twoOk s = true := hp
        simp only [twoOk, sgOk, Bool.or_eq_true, beq_iff_eq, Bool.and_eq_true, decide_eq_true_eq] at this
        omega
      have h1 := toks_tokV d a (ha a (by simp))
      have h2 := toks_tokV d b (ha b (by simp))
      have e1 : tokV 2 13 = true := rfl
      have e2 : tokV 2 14 = true := rfl
      rw [toksT3, List.all_append, List.all_cons, sg s hs.1 hs.2, h2, arnd]
      split
      · rw [h1]; rfl
      · rw [List.all_cons, List.all_append, h1]; rfl
    · obtain ⟨a, rfl⟩ : ∃ a, ks = [a] := List.length_eq_one_iff.1 hk
      have hs : 0 ≤ s ∧ s < 15 := by
        have : sgOk s = true := hp
        simp only [sgOk, Bool.and_eq_true, decide_eq_true_eq] at this
        omega
      rw [toksT4, List.all_cons, List.all_cons, sg s hs.1 hs.2, toks_tokV d a (ha a (by simp))]; rfl

theorem read_back {t : Tr} (h : validT 8 t = true) (hl : (toksT t).length ≤ 40) : readE (revK (tokDs (toksT t))) = (t, true, []) := by
  rw [revK_tokDs, readE_eq _ (by simp; omega)]
  have := (read_tree 8 t [] h trivial (by simpa using (by omega : (toksT t).length ≤ 50))).1
  rw [List.append_nil, readL_nil] at this
  exact this
theorem parse_back {t : Tr} (h : validT 8 t = true) (hl : (toksT t).length ≤ 40) : parseB (revK (tokDs (toksT t))) = true := by
  rw [parseB, read_back h hl, revK_tokDs, List.length_reverse, List.all_reverse, toks_tokV 8 t h, decide_eq_true hl, h]
  rfl
theorem around_back {t : Tr} (h : validT 8 t = true) (hl : (toksT t).length ≤ 38) : readE (revK (tokDs ((2, 13) :: (toksT t ++ [(2, 14)])))) = (t, true, []) := by
  rw [revK_tokDs, readE_eq _ (by simp; omega)]
  have hi := (read_tree 8 t [(2, 13)] h ⟨rfl, by decide⟩ (by simp; omega)).1
  have := read_paren (a := t) (ctx := []) (by simp; omega) hi
  have e : ((2, 13) :: (toksT t ++ [(2, 14)])).reverse = (2, 14) :: ((toksT t).reverse ++ [((2 : Int), (13 : Int))]) := by simp
  rw [e, this, readL_nil]
theorem around_parse {t : Tr} (h : validT 8 t = true) (hl : (toksT t).length ≤ 38) : parseB (revK (tokDs ((2, 13) :: (toksT t ++ [(2, 14)])))) = true := by
  have e1 : tokV 2 13 = true := rfl
  have e2 : tokV 2 14 = true := rfl
  rw [parseB, around_back h hl, revK_tokDs, List.length_reverse, List.all_reverse, List.all_cons, List.all_append, toks_tokV 8 t h, decide_eq_true (by simp; omega), h]
  rfl
end Go.Ab
