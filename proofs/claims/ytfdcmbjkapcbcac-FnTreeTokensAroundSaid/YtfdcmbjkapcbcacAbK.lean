/-
  AN ABSTRACT LAYER, 17b: the operations once more, each with what follows handed in: so that a run over letters comes to a tree of tests.
-/
import Derived.Test.YtfdcmbjkapcbcacAbDraw
namespace Go.Ab
variable {P : Program}

section
variable {R : Type}

def binIntK (op : BinOp) (k : IntKind) (a b : Int) (c : AV → Option R) : Option R :=
  match op with
  | .add => c (.imm (.int k (k.wrap (a + b))))
  | .sub => c (.imm (.int k (k.wrap (a - b))))
  | .mul => c (.imm (.int k (k.wrap (a * b))))
  | .quo => match decide (b = 0) with | true => none | false => c (.imm (.int k (k.wrap (a.tdiv b))))
  | .rem => match decide (b = 0) with | true => none | false => c (.imm (.int k (a.tmod b)))
  | .shr => match decide (b < 0) with | true => none | false => c (.imm (.int k (a.fdiv (2 ^ min b.toNat k.bits))))
  | op => (binInt op k a b).bind fun d => c (.imm d)

def binK (P : Program) (op : BinOp) (t : TypeId) (b : Bool) (x y : AV) (c : AV → Option R) : Option R :=
  match x, y with
  | .imm (.int k a), .imm (.int k' b) => if k = k' then binIntK op k a b c else none
  | x, y => (binN P op t b x y).bind c

def indexAddrK (P : Program) (t : TypeId) (H : Heap) (x ix : AV) (c : AV → Option R) : Option R :=
  match ix with
  | .imm (.int _ i) =>
    match x with
    | .row id s off len => (elemT P t).bind fun e => (sizeT P e).bind fun s' => if s' = s then (idx i len).bind fun k => c (.ptr id (off + k) 0) else none
    | .all id s => (elemT P t).bind fun e => (sizeT P e).bind fun s' => if s' = s then (H id).bind fun r => (rlen r).bind fun n => (idx i n).bind fun k => c (.ptr id k 0) else none
    | .imm d => (elemT P t).bind fun e => (sizeT P e).bind fun s => if s = d.sz then (dlen d).bind fun n => (idx i n).bind fun k => c (.eptr d k 0) else none
    | x => (indexAddrA P t H x ix).bind c
  | _ => none

def indexK (P : Program) (t : TypeId) (x ix : AV) (c : AV → Option R) : Option R :=
  match x, ix with
  | .imm (.str s), .imm (.int _ i) => match P.underlying t with
    | some .string => (if 0 ≤ i then s[i.toNat]? else none).bind fun b => c (.imm (.int .u8 b.toNat))
    | _ => none
  | x, ix => (indexA P t x ix).bind c

/-- The integers of an element that is a slice of integers. -/
def seeI (k : IntKind) : D → Option (List Int)
  | .ints k' ys => if k' = k then some ys else none
  | _ => none

def getI (k : IntKind) (xs : List D) (i : Nat) : Option (List Int) := (xs[i]?).bind (seeI k)

/-- An element of a slice of data: slices of integers are seen as integers. -/
def elemK (P : Program) (t : TypeId) (s : Nat) (xs : List D) (i j : Nat) (c : AV → Option R) : Option R :=
  match (elemT P t).bind (kindT P) with
  | some k => (aggT P t).bind fun b => (sizeT P t).bind fun _ => if b then none else if j = 0 then (getI k xs i).bind fun ys => c (.imm (.ints k ys)) else none
  | none => match aggT P t with
    | some false => (sizeT P t).bind fun _ => match okC (shT P t) xs i j with
      | true => c (.imm (viewD (shT P t) (cellAt xs i j)))
      | false => none
    | some true => (sizeT P t).bind fun n => if j = 0 ∧ n = s then (match okS (shs P t) xs i with
      | true => c (.imm (.agg (viewS (shs P t) xs i 0)))
      | false => none) else none
    | none => none

theorem elemK_spec {P : Program} {t : TypeId} {s : Nat} {xs : List D} {i j : Nat} {c : AV → Option R} {r : R} (h : elemK P t s xs i j c = some r) : ∃ d d', xs[i]? = some d ∧ elemD P t s d j = some d' ∧ c (.imm d') = some r := by
  unfold elemK at h
  split at h
  · simp only [Option.bind_eq_some_iff] at h
    obtain ⟨b, h1, n, h2, h3⟩ := h
    split at h3
    · simp at h3
    · rename_i hb
      split at h3
      · rename_i hj
        simp only [Option.bind_eq_some_iff, getI] at h3
        obtain ⟨ys, ⟨d, h4, h5⟩, h6⟩ := h3
        cases d <;> simp only [seeI] at h5 <;> try (cases h5; done)
        split at h5
        · rename_i hk
          cases h5
          subst hk
          exact ⟨_, _, h4, by simp [elemD, h1, h2, hb, hj], h6⟩
        · cases h5
      · simp at h3
  · split at h
    · rename_i hb
      simp only [Option.bind_eq_some_iff] at h
      obtain ⟨n, hn, h⟩ := h
      split at h
      case h_2 => cases h
      rename_i hk
      obtain ⟨d, h1, h2⟩ := okC_spec hk
      refine ⟨d, _, h1, ?_, h⟩
      simp only [elemD, hb, hn, Option.bind_some, Bool.false_eq_true, if_false]
      split
      · exact h2
      · rename_i hna
        have hcd : d.cells = [d] := by cases d <;> first | rfl | (exact absurd rfl (hna _))
        rw [hcd] at h2
        obtain ⟨hlt, he⟩ := List.getElem?_eq_some_iff.1 h2
        simp at hlt
        subst hlt
        rw [if_pos rfl]
        exact congrArg some he
    · rename_i hb
      simp only [Option.bind_eq_some_iff] at h
      obtain ⟨n, hn, h⟩ := h
      split at h
      case isFalse => cases h
      rename_i hj
      split at h
      case h_2 => cases h
      rename_i hk
      exact ⟨_, _, okS_spec hk, by simp only [elemD, hb, hn, Option.bind_some, if_true, if_pos hj], h⟩
    · cases h

def loadK (P : Program) (t : TypeId) (H : Heap) (x : AV) (c : AV → Option R) : Option R :=
  match x with
  | .ptr id i j =>
    match H id with
    | some (.ints k xs) => (aggT P t).bind fun b => if b then none else if j = 0 then (xs[i]?).bind fun n => c (.imm (.int k n)) else none
    | some (.ds s xs) => elemK P t s xs i j c
    | _ => (loadA P t H x).bind c
  | .eptr d i j =>
    match d with
    | .ints k xs => (aggT P t).bind fun b => if b then none else if j = 0 then (xs[i]?).bind fun n => c (.imm (.int k n)) else none
    | .seq s xs => elemK P t s xs i j c
    | _ => none
  | _ => (loadA P t H x).bind c

def storeK (P : Program) (t : TypeId) (H : Heap) (x y : AV) (c : Heap → Option R) : Option R :=
  match x with
  | .ptr id i j =>
    match H id with
    | some (.ints k xs) => (sizeT P t).bind fun n => match y with
      | .imm (.int k' m) => if k' = k ∧ j = 0 ∧ n = 1 then (match decide (i < xs.length) with | true => c (H.set id (.ints k (xs.set i m))) | false => none) else none
      | _ => none
    | some (.ds s xs) => (sizeT P t).bind fun n => (toD y).bind fun d0 => (aggT P t).bind fun b => match b with
      | false => if n = 1 ∧ j < s then (match (fixD (shT P t) d0).one with
        | true => (match decide (i < xs.length) with | true => c (H.set id (.ds s (putE s xs i j (fixD (shT P t) d0)))) | false => none)
        | false => none) else none
      | true => match fixN P t d0 with
        | .agg cs => if j = 0 ∧ n = s ∧ cs.length = s then (match cs.all D.one with
          | true => (match decide (i < xs.length) with | true => c (H.set id (.ds s (xs.set i (.agg cs)))) | false => none)
          | false => none) else none
        | _ => none
    | _ => (storeA P t H x y).bind c
  | _ => none

def sliceK (P : Program) (t : TypeId) (H : Heap) (x : AV) (lo hi : Option AV) (c : AV → Option R) : Option R :=
  match x with
  | .imm (.str s) => match P.underlying t with
    | some .string => (cutEnds s.size lo hi).bind fun p => c (.imm (.str (s.extract p.1 p.2)))
    | _ => none
  | .row id s off len => (elemT P t).bind fun e => (sizeT P e).bind fun s' => if s' = s then (cutEnds len lo hi).bind fun p => c (.row id s (off + p.1) (p.2 - p.1)) else none
  | .all id s => (elemT P t).bind fun e => (sizeT P e).bind fun s' => if s' = s then (H id).bind fun r => (rlen r).bind fun n => (cutEnds n lo hi).bind fun p => c (.row id s p.1 (p.2 - p.1)) else none
  | .imm d => (elemT P t).bind fun e => (sizeT P e).bind fun s' => if s' = d.szN s' then (dlen d).bind fun n => (cutEnds n lo hi).bind fun p => c (.imm (cutD d p.1 p.2)) else none
  | _ => none

/-- May a slice of n elements of b bytes be made by append? -/
def fits (n b : Nat) : Bool := decide (n * b ≤ 140737488355328) && decide (n ≤ 4611686018427387904)

def appendK (P : Program) (t : TypeId) (s x : AV) (nid : Nat) (H : Heap) (c : AV → Heap → Option R) : Option R :=
  (elemT P t).bind fun e => (P.info? e).bind fun info => (kindT P e).bind fun k => (zeroT P e).bind fun z => (intsOf k H x).bind fun ys =>
    if z.cells.size = 1 ∧ info.size = 1 then
      match H nid, s with
      | none, .imm .nils => match fits ys.length info.bytes with
        | true => c (.all nid 1) (H.set nid (.ints k ys))
        | false => none
      | none, .all id _ => match H id with
        | some (.ints k' xs) => if k' = k then match fits (xs.length + ys.length) info.bytes with
          | true => c (.all nid 1) ((H.set id .dead).set nid (.ints k (xs ++ ys)))
          | false => none else none
        | _ => none
      | none, .row id s' off len => match H id with
        | some (.ints k' zs) => if k' = k ∧ s' = 1 then match decide (off = 0) && decide (len ≤ zs.length) && fits (len + ys.length) info.bytes with
          | true => c (.all nid 1) ((H.set id .dead).set nid (.ints k (zs.take len ++ ys)))
          | false => none else none
        | _ => none
      | _, _ => none
    else none

def appendDsK (P : Program) (t : TypeId) (s x : AV) (nid : Nat) (H : Heap) (c : AV → Heap → Option R) : Option R :=
  (elemT P t).bind fun e => (P.info? e).bind fun info => (zeroT P e).bind fun z => (dsOf info.size H x).bind fun ys =>
    if z.cells.size = info.size then
      (match okDs info.size ys with
      | false => none
      | true =>
        match H nid, s with
        | none, .imm .nils => (match fits ys.length info.bytes with
          | true => c (.all nid info.size) (H.set nid (.ds info.size ys))
          | false => none)
        | none, .all id _ => (match H id with
          | some (.ds n' xs) => if n' = info.size then (match fits (xs.length + ys.length) info.bytes with
            | true => c (.all nid info.size) ((H.set id .dead).set nid (.ds info.size (xs ++ ys)))
            | false => none) else none
          | _ => none)
        | none, .row id s' off len => (match H id with
          | some (.ds n' zs) => if n' = info.size ∧ s' = info.size then (match decide (off = 0) && decide (len ≤ zs.length) && fits (len + ys.length) info.bytes with
            | true => c (.all nid info.size) ((H.set id .dead).set nid (.ds info.size (zs.take len ++ ys)))
            | false => none) else none
          | _ => none)
        | _, _ => none)
    else none

def appendSK (P : Program) (t : TypeId) (s x : AV) (nid : Nat) (H : Heap) (c : AV → Heap → Option R) : Option R :=
  match (elemT P t).bind (kindT P) with
  | some _ => appendK P t s x nid H c
  | none => appendDsK P t s x nid H c

def intsOfK (k : IntKind) (H : Heap) (x : AV) (c : List Int → Option R) : Option R :=
  match x with
  | .row id _ off len => match H id with
    | some (.ints k' xs) => if k' = k then match decide (off + len ≤ xs.length) with
      | true => c ((xs.drop off).take len)
      | false => none else none
    | _ => none
  | x => (intsOf k H x).bind c

def copyK (P : Program) (t : TypeId) (x y : AV) (H : Heap) (c : AV → Heap → Option R) : Option R :=
  (elemT P t).bind fun e => (sizeT P e).bind fun n => (kindT P e).bind fun k => intsOfK k H y fun ys =>
    if n = 1 then
      match x with
      | .all id _ => match H id with
        | some (.ints k' xs) => if k' = k then c (.imm (.int .i64 ((min ys.length xs.length : Nat) : Int))) (H.set id (.ints k (copyL xs 0 xs.length ys))) else none
        | _ => none
      | .row id _ off len => match H id with
        | some (.ints k' xs) => if k' = k then match decide (off + len ≤ xs.length) with
          | true => c (.imm (.int .i64 ((min ys.length len : Nat) : Int))) (H.set id (.ints k (copyL xs off len ys)))
          | false => none else none
        | _ => none
      | _ => none
    else none

def appendZK (P : Program) (t u : TypeId) (s x : AV) (nid : Nat) (H : Heap) (c : AV → Heap → Option R) : Option R :=
  (elemT P t).bind fun e => (P.info? e).bind fun info => (kindT P e).bind fun k => (zeroT P e).bind fun z => (kindT P u).bind fun _ =>
    match z, s, x with
    | .int k' 0, .imm .nils, .imm (.int _ n) => if k' = k ∧ info.size = 1 then match decide (0 ≤ n) && fits n.toNat info.bytes with
        | true => match H nid with
          | none => c (.all nid 1) (H.set nid (.ints k (List.replicate n.toNat 0)))
          | some _ => none
        | false => none
      else none
    | _, _, _ => none

def appendZDK (P : Program) (t u : TypeId) (s x : AV) (nid : Nat) (H : Heap) (c : AV → Heap → Option R) : Option R :=
  (elemT P t).bind fun e => (P.info? e).bind fun info => (zeroT P e).bind fun z => (zeroD P e).bind fun d => (kindT P u).bind fun _ =>
    match s, x with
    | .imm .nils, .imm (.int _ n) => if d.cells.length = info.size ∧ d.cells.all D.one = true ∧ z.cells.size = info.size ∧ 0 < info.size then (match decide (0 ≤ n) && fits n.toNat info.bytes with
        | true => (match H nid with
          | none => c (.all nid info.size) (H.set nid (.ds info.size (List.replicate n.toNat d)))
          | some _ => none)
        | false => none)
      else none
    | _, _ => none

def appendZZK (P : Program) (t u : TypeId) (s x : AV) (nid : Nat) (H : Heap) (c : AV → Heap → Option R) : Option R :=
  match (elemT P t).bind (kindT P) with
  | some _ => appendZK P t u s x nid H c
  | none => appendZDK P t u s x nid H c

def makeIntsK (P : Program) (t : TypeId) (l c : AV) (nid : Nat) (H : Heap) (q : AV → Heap → Option R) : Option R :=
  match l, c with
  | .imm (.int _ l'), .imm (.int _ c') => (elemT P t).bind fun e => (P.info? e).bind fun info => (kindT P e).bind fun k => (zeroT P e).bind fun z =>
    match z with
    | .int k' 0 => if k' = k ∧ info.size = 1 then
        match decide (0 ≤ l') && decide (l' ≤ c') && decide (c' ≤ 1152921504606846976) && decide (info.bytes * c' ≤ 281474976710656) with
        | true => match H nid with
          | none => q (.all nid 1) (H.set nid (.ints k (List.replicate l'.toNat 0)))
          | some _ => none
        | false => none
      else none
    | _ => none
  | _, _ => none

def makeSeqK (P : Program) (t : TypeId) (l c : AV) (nid : Nat) (H : Heap) (q : AV → Heap → Option R) : Option R :=
  match l, c with
  | .imm (.int _ l'), .imm (.int _ c') => (elemT P t).bind fun e => (P.info? e).bind fun info => (zeroT P e).bind fun z => (zeroD P e).bind fun d =>
      if d.cells.length = info.size ∧ d.cells.all D.one = true ∧ z.cells.size = info.size ∧ 0 < info.size then
        match decide (0 ≤ l') && decide (l' ≤ c') && decide (c' ≤ 1152921504606846976) && decide (info.bytes * c' ≤ 281474976710656) with
        | true => match H nid with
          | none => q (.all nid info.size) (H.set nid (.ds info.size (List.replicate l'.toNat d)))
          | some _ => none
        | false => none
      else none
  | _, _ => none

def makeSliceK (P : Program) (t : TypeId) (l c : AV) (nid : Nat) (H : Heap) (q : AV → Heap → Option R) : Option R :=
  match (elemT P t).bind (kindT P) with
  | some _ => makeIntsK P t l c nid H q
  | none => makeSeqK P t l c nid H q

def lendCellK (H : Heap) (x : AV) (c : D × Bool → Option R) : Option R :=
  match x with
  | .row id _ off len => match H id with
    | some (.ints k xs) => match decide (off + len ≤ xs.length) with
      | true => c (.ints k ((xs.drop off).take len), true)
      | false => none
    | _ => (lendCell H x).bind c
  | x => (lendCell H x).bind c

def lendCellsK (H : Heap) : List AV → (List (D × Bool) → Option R) → Option R
  | [], c => c []
  | x :: xs, c => lendCellK H x fun d => lendCellsK H xs fun ds => c (d :: ds)

def argXK (H : Heap) (x : AV) (c : XA × Bool × Option Nat → Option R) : Option R :=
  match x with
  | .agg cs => lendCellsK H cs fun ds => c (.d (.agg (ds.map (·.1))), ds.any (·.2), none)
  | .ptr _ _ _ => (argX H x).bind c
  | x => lendCellK H x fun d => c (.d d.1, d.2, none)

def argsXK (H : Heap) : List AV → (List (XA × Bool × Option Nat) → Option R) → Option R
  | [], c => c []
  | x :: xs, c => argXK H x fun a => argsXK H xs fun as => c (a :: as)

/-- The results that a call may have, one after the other. -/
def splitR {α : Type} : List (Bool × α) → α → (α → Option R) → Option R
  | [], d, k => k d
  | (b, r) :: l, d, k => match b with
    | true => k r
    | false => splitR l d k

theorem splitR_spec {α : Type} : ∀ (l : List (Bool × α)) (d : α) (k : α → Option R), splitR l d k = k (pickR l d)
  | [], _, _ => rfl
  | (true, _) :: _, _, _ => rfl
  | (false, _) :: l, d, k => splitR_spec l d k

def callR (E : Entry) (pol : Bool) (as : List (XA × Bool × Option Nat)) (nid : Nat) (H : Heap) (c : AV → Heap → Option R) (r : List XR × List (List D)) : Option R :=
  if E.quiet then
    (if (as.filterMap (·.2.2)).isEmpty ∧ r.2.isEmpty ∧ (as.any (·.2.1) = true → (r.1.all fun r => r.cells.all Cell.free) = true) then
      ((r.1.mapM resQ).map packA).bind fun x => c x H else none)
  else if E.makes then
    (if (as.filterMap (·.2.2)).isEmpty ∧ r.2.isEmpty ∧ (as.any (·.2.1) = true → (r.1.all fun r => r.cells.all Cell.free) = true) then
      (resBack pol r.1 nid H).bind fun p => c (packA p.1) p.2 else none)
  else
    (if (as.filterMap (·.2.2)).Nodup ∧ (as.any (·.2.1) = true → (r.1.all fun r => r.cells.all Cell.free) = true ∧ (r.2.all fun p => p.all fun d => !d.mem) = true) then
      (postBack r.2 (as.filterMap (·.2.2)) H).bind fun H1 => (resBack pol r.1 nid H1).bind fun p => c (packA p.1) p.2
    else none)

def callK (E : Entry) (pol : Bool) (args : List AV) (nid : Nat) (H : Heap) (c : AV → Heap → Option R) : Option R :=
  argsXK H args fun as => match E.pre (as.map (·.1)) with
    | true => splitR (E.alts (as.map (·.1))) (E.res (as.map (·.1))) (callR E pol as nid H c)
    | false => none

/-- A call that turns rows. -/
def callMK (E : Entry) (args : List AV) (H : Heap) (c : AV → Heap → Option R) : Option R :=
  (argsM H args).bind fun a => match E.pre a.1 with
    | true => splitR (E.alts a.1) (E.res a.1) fun r => (backM r a.2 H).bind fun r => c r.1 r.2
    | false => none

/-- A call by an entry. -/
def callFK (E : Entry) (pol : Bool) (args : List AV) (nid : Nat) (H : Heap) (c : AV → Heap → Option R) : Option R :=
  if E.turns && !E.quiet then callMK E args H c else callK E pol args nid H c

def qCellK (H : Heap) (x : AV) (c : Q → Option R) : Option R :=
  match x with
  | .row id _ off len => match H id with
    | some (.ints .i64 xs) => match decide (off + len ≤ xs.length) with
      | true => c (.l ((xs.drop off).take len))
      | false => none
    | _ => none
  | x => (qCell H x).bind c

def qCellsK (H : Heap) : List AV → (List Q → Option R) → Option R
  | [], c => c []
  | x :: xs, c => qCellK H x fun q => qCellsK H xs fun qs => c (q :: qs)

def callFnK (rb : Bool) (dom : List Q → Bool) (G : List Q → Int) (args : List AV) (H : Heap) (c : AV → Option R) : Option R :=
  qCellsK H args fun qs => match dom qs with
    | true => c (.imm (fnD rb (G qs)))
    | false => none

theorem qCellK_spec {H : Heap} {x : AV} {c : Q → Option R} {r : R} (h : qCellK H x c = some r) : ∃ q, qCell H x = some q ∧ c q = some r := by
  unfold qCellK at h
  split at h
  · split at h
    · rename_i hH
      split at h
      · rename_i hd
        exact ⟨_, by simp [qCell, hH, of_decide_eq_true hd], h⟩
      · simp at h
    · simp at h
  · simpa only [Option.bind_eq_some_iff] using h

theorem qCellsK_spec {H : Heap} {r : R} : ∀ (xs : List AV) (c : List Q → Option R), qCellsK H xs c = some r → ∃ qs, xs.mapM (qCell H) = some qs ∧ c qs = some r
  | [], c, h => ⟨[], by simp, h⟩
  | x :: xs, c, h => by
    simp only [qCellsK] at h
    obtain ⟨q, h1, h2⟩ := qCellK_spec h
    obtain ⟨qs, h3, h4⟩ := qCellsK_spec xs _ h2
    exact ⟨q :: qs, by simp [h1, h3], h4⟩

theorem callFnK_spec {rb : Bool} {dom : List Q → Bool} {G : List Q → Int} {args : List AV} {H : Heap} {c : AV → Option R} {r : R} (h : callFnK rb dom G args H c = some r) : ∃ v, callFnA rb dom G args H = some v ∧ c v = some r := by
  obtain ⟨qs, h1, h2⟩ := qCellsK_spec _ _ h
  split at h2
  · rename_i hd
    exact ⟨_, by simp [callFnA, h1, hd], h2⟩
  · simp at h2

def opK1 (P : Program) (X : List Entry) (A : Ann) (o : Oper) (t : List AV) (H : Heap) (c : AV → Heap → Option R) : Option R :=
  match o.op with
  | .move x => c (evalA t x) H
  | .load ty x => loadK P ty H (evalA t x) fun v => c v H
  | .store ty x y => storeK P ty H (evalA t x) (evalA t y) fun H' => c .undef H'
  | .binOp op ty x y _ => binK P op ty (isCst x || isCst y) (evalA t x) (evalA t y) fun v => c v H
  | .slice ty x lo hi none => sliceK P ty H (evalA t x) (lo.map (evalA t)) (hi.map (evalA t)) fun v => c v H
  | .indexAddr ty x i => indexAddrK P ty H (evalA t x) (evalA t i) fun v => c v H
  | .index ty x i => indexK P ty (evalA t x) (evalA t i) fun v => c v H
  | .makeSlice ty l n => makeSliceK P ty (evalA t l) (evalA t n) (nidOf o) H c
  | .call cl =>
    match cl.callee with
    | .value (.func f) => (findE X f).bind fun E => if E.turns && !E.quiet then callMK E (evalArgs P f t cl.args) H c else callK E (polOf A o) (evalArgs P f t cl.args) (nidOf o) H c
    | .value x => match evalA t x with
      | .imm (.clo f ds) => (findE X f).bind fun E => if E.quiet then callK E false (cl.args.toList.map (evalA t) ++ ds.map AV.imm) 0 H c else none
      | .imm (.fn rb dom G) => callFnK rb dom G (cl.args.toList.map (evalA t)) H fun v => c v H
      | _ => none
    | .invoke r nm => (findM X nm).bind fun E => callFK E (polOf A o) (evalA t r :: cl.args.toList.map (evalA t)) (nidOf o) H c
    | .builtin .append => match cl.argTypes.toList, cl.args.toList with
      | [ty, ty'], [x, y] => if ty = ty' then appendSK P ty (evalA t x) (evalA t y) (nidOf o) H c else appendZZK P ty ty' (evalA t x) (evalA t y) (nidOf o) H c
      | _, _ => none
    | .builtin .copy => match cl.argTypes.toList, cl.args.toList with
      | [ty, _], [x, y] => copyK P ty (evalA t x) (evalA t y) H c
      | _, _ => none
    | _ => (opF1 P X A o t H).bind fun r => c r.1 r.2
  | _ => (opF1 P X A o t H).bind fun r => c r.1 r.2

def opK (P : Program) (X : List Entry) (A : Ann) (o : Oper) (t : List AV) (H : Heap) (c : AV → Heap → Option R) : Option R :=
  match litOf A o && dataOp o with
  | true => opK1 P X A o t (fun _ => none) fun v _ => c v H
  | false => opK1 P X A o t H c

theorem binK_spec {P : Program} {op : BinOp} {t : TypeId} {cst : Bool} {x y : AV} {c : AV → Option R} {r : R} (h : binK P op t cst x y c = some r) : ∃ v, binN P op t cst x y = some v ∧ c v = some r := by
  unfold binK at h
  split at h
  · rename_i k a k' b
    split at h
    · rename_i hk
      subst hk
      simp only [binN, binA, binD, if_true]
      unfold binIntK at h
      split at h
      case h_4 =>
        split at h
        · simp at h
        · rename_i hb
          have := of_decide_eq_false hb
          exact ⟨_, by simp [binInt, this], h⟩
      case h_5 =>
        split at h
        · simp at h
        · rename_i hb
          have := of_decide_eq_false hb
          exact ⟨_, by simp [binInt, this], h⟩
      case h_6 =>
        split at h
        · simp at h
        · rename_i hb
          have := of_decide_eq_false hb
          exact ⟨_, by simp [binInt, this], h⟩
      case h_7 =>
        simp only [Option.bind_eq_some_iff] at h
        obtain ⟨d, h1, h2⟩ := h
        exact ⟨_, by simp [h1], h2⟩
      all_goals exact ⟨_, by simp [binInt], h⟩
    · simp at h
  · simpa only [Option.bind_eq_some_iff] using h

theorem indexAddrK_spec {P : Program} {t : TypeId} {H : Heap} {x ix : AV} {c : AV → Option R} {r : R} (h : indexAddrK P t H x ix c = some r) : ∃ v, indexAddrA P t H x ix = some v ∧ c v = some r := by
  unfold indexAddrK at h
  split at h
  case h_2 => simp at h
  split at h
  · simp only [Option.bind_eq_some_iff] at h
    obtain ⟨e, h1, s', h2, h3⟩ := h
    split at h3
    · rename_i hs
      simp only [Option.bind_eq_some_iff] at h3
      obtain ⟨k, h3, h4⟩ := h3
      exact ⟨_, by simp [indexAddrA, h1, h2, hs, h3], h4⟩
    · simp at h3
  · simp only [Option.bind_eq_some_iff] at h
    obtain ⟨e, h1, s', h2, h3⟩ := h
    split at h3
    · rename_i hs
      simp only [Option.bind_eq_some_iff] at h3
      obtain ⟨r', h3, n, h4, k, h5, h6⟩ := h3
      exact ⟨_, by simp [indexAddrA, h1, h2, hs, h3, h4, h5], h6⟩
    · simp at h3
  · simp only [Option.bind_eq_some_iff] at h
    obtain ⟨e, h1, s', h2, h3⟩ := h
    split at h3
    · rename_i hs
      simp only [Option.bind_eq_some_iff] at h3
      obtain ⟨n, h4, k, h5, h6⟩ := h3
      exact ⟨_, by simp [indexAddrA, h1, h2, hs, h4, h5], h6⟩
    · simp at h3
  · simpa only [Option.bind_eq_some_iff] using h

theorem indexK_spec {P : Program} {t : TypeId} {x ix : AV} {c : AV → Option R} {r : R} (h : indexK P t x ix c = some r) : ∃ v, indexA P t x ix = some v ∧ c v = some r := by
  unfold indexK at h
  split at h
  · split at h
    · rename_i hu
      simp only [Option.bind_eq_some_iff] at h
      obtain ⟨b, h1, h2⟩ := h
      exact ⟨_, by simp only [indexA, hu, h1, Option.map_some], h2⟩
    · simp at h
  · simpa only [Option.bind_eq_some_iff] using h

theorem loadK_spec {P : Program} {t : TypeId} {H : Heap} {x : AV} {c : AV → Option R} {r : R} (h : loadK P t H x c = some r) : ∃ v, loadA P t H x = some v ∧ c v = some r := by
  unfold loadK at h
  split at h
  · split at h
    · rename_i hH
      simp only [Option.bind_eq_some_iff] at h
      obtain ⟨b, h1, h2⟩ := h
      split at h2
      · simp at h2
      · rename_i hb
        split at h2
        · rename_i hj
          simp only [Option.bind_eq_some_iff] at h2
          obtain ⟨n, h3, h4⟩ := h2
          exact ⟨_, by simp [loadA, hH, h1, hb, hj, h3], h4⟩
        · simp at h2
    · rename_i hH
      obtain ⟨d, d', h1, h2, h3⟩ := elemK_spec h
      exact ⟨_, by simp [loadA, hH, h1, h2], h3⟩
    · simpa only [Option.bind_eq_some_iff] using h
  · split at h
    · simp only [Option.bind_eq_some_iff] at h
      obtain ⟨b, h1, h2⟩ := h
      split at h2
      · simp at h2
      · rename_i hb
        split at h2
        · rename_i hj
          simp only [Option.bind_eq_some_iff] at h2
          obtain ⟨n, h3, h4⟩ := h2
          exact ⟨_, by simp [loadA, h1, hb, hj, h3], h4⟩
        · simp at h2
    · obtain ⟨d, d', h1, h2, h3⟩ := elemK_spec h
      exact ⟨_, by simp [loadA, h1, h2], h3⟩
    · simp at h
  · simpa only [Option.bind_eq_some_iff] using h

theorem storeK_spec {P : Program} {t : TypeId} {H : Heap} {x y : AV} {c : Heap → Option R} {r : R} (h : storeK P t H x y c = some r) : ∃ v, storeA P t H x y = some v ∧ c v = some r := by
  unfold storeK at h
  split at h
  · split at h
    · rename_i hH
      simp only [Option.bind_eq_some_iff] at h
      obtain ⟨n, h1, h2⟩ := h
      split at h2
      · split at h2
        · rename_i hc
          split at h2
          · rename_i hl
            exact ⟨_, by simp [storeA, h1, hH, hc, of_decide_eq_true hl], h2⟩
          · simp at h2
        · simp at h2
      · simp at h2
    · rename_i hH
      simp only [Option.bind_eq_some_iff] at h
      obtain ⟨n, h1, d0, h2, b, h3, h4⟩ := h
      split at h4
      · split at h4
        case isFalse => cases h4
        rename_i hc
        split at h4
        case h_2 => cases h4
        rename_i ho
        split at h4
        case h_2 => cases h4
        rename_i hl
        refine ⟨_, ?_, h4⟩
        simp only [storeA, h1, hH, storeD, h2, h3, Option.bind_some]
        rw [if_pos ⟨ho, hc.1, hc.2, of_decide_eq_true hl⟩]
        rfl
      · split at h4
        case h_2 => cases h4
        rename_i cs hfx
        split at h4
        case isFalse => cases h4
        rename_i hc
        split at h4
        case h_2 => cases h4
        rename_i ho
        split at h4
        case h_2 => cases h4
        rename_i hl
        refine ⟨_, ?_, h4⟩
        simp only [storeA, h1, hH, storeD, h2, h3, Option.bind_some, hfx]
        rw [if_pos ⟨ho, hc.2.2, hc.1, hc.2.1, of_decide_eq_true hl⟩]
        rfl
    · simpa only [Option.bind_eq_some_iff] using h
  · simp at h

theorem sliceK_spec {P : Program} {t : TypeId} {H : Heap} {x : AV} {lo hi : Option AV} {c : AV → Option R} {r : R} (h : sliceK P t H x lo hi c = some r) : ∃ v, sliceA P t H x lo hi = some v ∧ c v = some r := by
  unfold sliceK at h
  split at h
  · split at h
    · rename_i hu
      simp only [Option.bind_eq_some_iff] at h
      obtain ⟨p, h1, h2⟩ := h
      exact ⟨_, by simp only [sliceA, hu, h1, Option.map_some], h2⟩
    · simp at h
  · simp only [Option.bind_eq_some_iff] at h
    obtain ⟨e, h1, s', h2, h3⟩ := h
    split at h3
    · rename_i hs
      simp only [Option.bind_eq_some_iff] at h3
      obtain ⟨p, h3, h4⟩ := h3
      exact ⟨_, by simp [sliceA, h1, h2, hs, h3], h4⟩
    · simp at h3
  · simp only [Option.bind_eq_some_iff] at h
    obtain ⟨e, h1, s', h2, h3⟩ := h
    split at h3
    · rename_i hs
      simp only [Option.bind_eq_some_iff] at h3
      obtain ⟨r', h3, n, h4, p, h5, h6⟩ := h3
      exact ⟨_, by simp [sliceA, h1, h2, hs, h3, h4, h5], h6⟩
    · simp at h3
  · rename_i d hd
    simp only [Option.bind_eq_some_iff] at h
    obtain ⟨e, h1, s', h2, h3⟩ := h
    split at h3
    · rename_i hs
      simp only [Option.bind_eq_some_iff] at h3
      obtain ⟨n, h4, p, h5, h6⟩ := h3
      refine ⟨.imm (cutD d p.1 p.2), ?_, h6⟩
      cases d <;> first | exact absurd rfl (hd _) | (simp only [sliceA, h1, h2, Option.bind_some]; rw [if_pos hs]; simp [h4, h5]; done)
    · simp at h3
  · simp at h

theorem appendK_spec {P : Program} {t : TypeId} {s x : AV} {nid : Nat} {H : Heap} {c : AV → Heap → Option R} {r : R} (h : appendK P t s x nid H c = some r) : ∃ v H', appendA P t s x nid H = some (v, H') ∧ c v H' = some r := by
  unfold appendK at h
  simp only [Option.bind_eq_some_iff] at h
  obtain ⟨e, h1, info, h2, k, h3, z, h4, ys, h5, h6⟩ := h
  split at h6
  case isFalse => simp at h6
  rename_i hz
  split at h6
  · rename_i hn
    split at h6
    · rename_i hf
      simp only [fits, Bool.and_eq_true, decide_eq_true_eq] at hf
      exact ⟨_, _, by simp [appendA, h1, h2, h3, h4, h5, hz, hn, hf], h6⟩
    · simp at h6
  · rename_i hn
    split at h6
    · rename_i hH
      split at h6
      · rename_i hk
        split at h6
        · rename_i hf
          simp only [fits, Bool.and_eq_true, decide_eq_true_eq] at hf
          exact ⟨_, _, by simp [appendA, h1, h2, h3, h4, h5, hz, hn, hH, hk, hf], h6⟩
        · simp at h6
      · simp at h6
    · simp at h6
  · rename_i hn
    split at h6
    · rename_i hH
      split at h6
      · rename_i hk
        split at h6
        · rename_i hf
          simp only [fits, Bool.and_eq_true, decide_eq_true_eq] at hf
          exact ⟨_, _, by simp [appendA, h1, h2, h3, h4, h5, hz, hn, hH, hk, hf], h6⟩
        · simp at h6
      · simp at h6
    · simp at h6
  · simp at h6

theorem appendDsK_spec {P : Program} {t : TypeId} {s x : AV} {nid : Nat} {H : Heap} {c : AV → Heap → Option R} {r : R} (h : appendDsK P t s x nid H c = some r) : ∃ v H', appendDsA P t s x nid H = some (v, H') ∧ c v H' = some r := by
  unfold appendDsK at h
  simp only [Option.bind_eq_some_iff] at h
  obtain ⟨e, h1, info, h2, z, h4, ys, h5, h6⟩ := h
  split at h6
  case isFalse => simp at h6
  rename_i hz
  split at h6
  · cases h6
  rename_i hok
  split at h6
  · rename_i hn
    split at h6
    · rename_i hf
      simp only [fits, Bool.and_eq_true, decide_eq_true_eq] at hf
      refine ⟨_, _, ?_, h6⟩
      simp only [appendDsA, h1, h2, h4, h5, Option.bind_some]
      rw [if_pos ⟨hz, hok⟩]
      simp only [hn]
      rw [if_pos hf]
    · simp at h6
  · rename_i hn
    split at h6
    · rename_i hH
      split at h6
      · rename_i hk
        split at h6
        · rename_i hf
          simp only [fits, Bool.and_eq_true, decide_eq_true_eq] at hf
          refine ⟨_, _, ?_, h6⟩
          simp only [appendDsA, h1, h2, h4, h5, Option.bind_some]
          rw [if_pos ⟨hz, hok⟩]
          simp only [hn, hH]
          rw [if_pos ⟨hk, hf⟩]
        · simp at h6
      · simp at h6
    · simp at h6
  · rename_i hn
    split at h6
    · rename_i hH
      split at h6
      · rename_i hk
        split at h6
        · rename_i hf
          simp only [fits, Bool.and_eq_true, decide_eq_true_eq] at hf
          refine ⟨_, _, ?_, h6⟩
          simp only [appendDsA, h1, h2, h4, h5, Option.bind_some]
          rw [if_pos ⟨hz, hok⟩]
          simp only [hn, hH]
          rw [if_pos ⟨hf.1.1, hk.1, hk.2, hf.1.2, hf.2.1, hf.2.2⟩]
        · simp at h6
      · simp at h6
    · simp at h6
  · simp at h6

theorem appendSK_spec {P : Program} {t : TypeId} {s x : AV} {nid : Nat} {H : Heap} {c : AV → Heap → Option R} {r : R} (h : appendSK P t s x nid H c = some r) : ∃ v H', appendSA P t s x nid H = some (v, H') ∧ c v H' = some r := by
  unfold appendSK at h
  split at h
  · rename_i hk
    simpa [appendSA, hk] using appendK_spec h
  · rename_i hk
    simpa [appendSA, hk] using appendDsK_spec h

theorem intsOfK_spec {k : IntKind} {H : Heap} {x : AV} {c : List Int → Option R} {r : R} (h : intsOfK k H x c = some r) : ∃ ys, intsOf k H x = some ys ∧ c ys = some r := by
  unfold intsOfK at h
  split at h
  · split at h
    · rename_i hH
      split at h
      · rename_i hk
        split at h
        · rename_i hd
          exact ⟨_, by simp [intsOf, hH, hk, of_decide_eq_true hd], h⟩
        · simp at h
      · simp at h
    · simp at h
  · simpa only [Option.bind_eq_some_iff] using h

theorem copyK_spec {P : Program} {t : TypeId} {x y : AV} {H : Heap} {c : AV → Heap → Option R} {r : R} (h : copyK P t x y H c = some r) : ∃ v H', copyA P t x y H = some (v, H') ∧ c v H' = some r := by
  unfold copyK at h
  simp only [Option.bind_eq_some_iff] at h
  obtain ⟨e, h1, n, h2, k, h3, h4⟩ := h
  obtain ⟨ys, h5, h6⟩ := intsOfK_spec h4
  split at h6
  case isFalse => simp at h6
  rename_i hn
  split at h6
  · split at h6
    · rename_i hH
      split at h6
      · rename_i hk
        exact ⟨_, _, by simp [copyA, h1, h2, h3, h5, hn, hH, hk], h6⟩
      · simp at h6
    · simp at h6
  · split at h6
    · rename_i hH
      split at h6
      · rename_i hk
        split at h6
        · rename_i hd
          exact ⟨_, _, by simp [copyA, h1, h2, h3, h5, hn, hH, hk, of_decide_eq_true hd], h6⟩
        · simp at h6
      · simp at h6
    · simp at h6
  · simp at h6

theorem appendZK_spec {P : Program} {t u : TypeId} {s x : AV} {nid : Nat} {H : Heap} {c : AV → Heap → Option R} {r : R} (h : appendZK P t u s x nid H c = some r) : ∃ v H', appendZ P t u s x nid H = some (v, H') ∧ c v H' = some r := by
  unfold appendZK at h
  simp only [Option.bind_eq_some_iff] at h
  obtain ⟨e, h1, info, h2, k, h3, z, h4, ku, h5, h6⟩ := h
  split at h6
  case h_2 => simp at h6
  split at h6
  case isFalse => simp at h6
  rename_i hk
  split at h6
  case h_2 => simp at h6
  rename_i hf
  simp only [fits, Bool.and_eq_true, decide_eq_true_eq] at hf
  split at h6
  case h_2 => simp at h6
  rename_i hn
  refine ⟨_, _, ?_, h6⟩
  simp only [appendZ, h1, h2, h3, h4, h5, Option.bind_some]
  rw [if_pos ⟨hk.1, hk.2, hf.1, hf.2.1, hf.2.2⟩]
  simp [hn]

theorem appendZDK_spec {P : Program} {t u : TypeId} {s x : AV} {nid : Nat} {H : Heap} {c : AV → Heap → Option R} {r : R} (h : appendZDK P t u s x nid H c = some r) : ∃ v H', appendZD P t u s x nid H = some (v, H') ∧ c v H' = some r := by
  unfold appendZDK at h
  simp only [Option.bind_eq_some_iff] at h
  obtain ⟨e, h1, info, h2, z, h3, d, h4, ku, h5, h6⟩ := h
  split at h6
  case h_2 => cases h6
  split at h6
  case isFalse => cases h6
  rename_i hk
  split at h6
  case h_2 => cases h6
  rename_i hf
  simp only [fits, Bool.and_eq_true, decide_eq_true_eq] at hf
  split at h6
  case h_2 => cases h6
  rename_i hn
  refine ⟨_, _, ?_, h6⟩
  simp only [appendZD, h1, h2, h3, h4, h5, Option.bind_some]
  rw [if_pos ⟨hk, hf.1, hf.2.1, hf.2.2⟩]
  simp only [hn]

theorem appendZZK_spec {P : Program} {t u : TypeId} {s x : AV} {nid : Nat} {H : Heap} {c : AV → Heap → Option R} {r : R} (h : appendZZK P t u s x nid H c = some r) : ∃ v H', appendZZ P t u s x nid H = some (v, H') ∧ c v H' = some r := by
  unfold appendZZK at h
  unfold appendZZ
  split at h
  · rename_i hk
    rw [hk]
    exact appendZK_spec h
  · rename_i hk
    rw [hk]
    exact appendZDK_spec h

theorem makeIntsK_spec {P : Program} {t : TypeId} {l n : AV} {nid : Nat} {H : Heap} {c : AV → Heap → Option R} {r : R} (h : makeIntsK P t l n nid H c = some r) : ∃ v H', makeIntsA P t l n nid H = some (v, H') ∧ c v H' = some r := by
  unfold makeIntsK at h
  split at h
  · simp only [Option.bind_eq_some_iff] at h
    obtain ⟨e, h1, info, h2, k, h3, z, h4, h5⟩ := h
    split at h5
    · split at h5
      · rename_i hk
        split at h5
        · rename_i hc
          simp only [Bool.and_eq_true, decide_eq_true_eq] at hc
          split at h5
          · rename_i hn
            exact ⟨_, _, by simp [makeIntsA, h1, h2, h3, h4, hk, hc, hn], h5⟩
          · simp at h5
        · simp at h5
      · simp at h5
    · simp at h5
  · simp at h

theorem makeSeqK_spec {P : Program} {t : TypeId} {l n : AV} {nid : Nat} {H : Heap} {c : AV → Heap → Option R} {r : R} (h : makeSeqK P t l n nid H c = some r) : ∃ v H', makeSeqA P t l n nid H = some (v, H') ∧ c v H' = some r := by
  unfold makeSeqK at h
  split at h
  · simp only [Option.bind_eq_some_iff] at h
    obtain ⟨e, h1, info, h2, z, h4, d, h3, h5⟩ := h
    split at h5
    case isFalse => cases h5
    rename_i hk
    split at h5
    case h_2 => cases h5
    rename_i hc
    simp only [Bool.and_eq_true, decide_eq_true_eq] at hc
    split at h5
    case h_2 => cases h5
    rename_i hn
    refine ⟨_, _, ?_, h5⟩
    simp only [makeSeqA, h1, h2, h4, h3, Option.bind_some]
    rw [if_pos ⟨hk, hc.1.1.1, hc.1.1.2, hc.1.2, hc.2⟩]
    simp only [hn]
  · simp at h

theorem makeSliceK_spec {P : Program} {t : TypeId} {l n : AV} {nid : Nat} {H : Heap} {c : AV → Heap → Option R} {r : R} (h : makeSliceK P t l n nid H c = some r) : ∃ v H', makeSliceA P t l n nid H = some (v, H') ∧ c v H' = some r := by
  unfold makeSliceK at h
  split at h
  · rename_i hk
    have e : makeSliceA P t l n nid H = makeIntsA P t l n nid H := by simp only [makeSliceA, hk]
    rw [e]
    exact makeIntsK_spec h
  · rename_i hk
    have e : makeSliceA P t l n nid H = makeSeqA P t l n nid H := by simp only [makeSliceA, hk]
    rw [e]
    exact makeSeqK_spec h

theorem lendCellK_spec {H : Heap} {x : AV} {c : D × Bool → Option R} {r : R} (h : lendCellK H x c = some r) : ∃ v, lendCell H x = some v ∧ c v = some r := by
  unfold lendCellK at h
  split at h
  · split at h
    · rename_i hH
      split at h
      · rename_i hd
        exact ⟨_, by simp [lendCell, hH, of_decide_eq_true hd], h⟩
      · simp at h
    · simpa only [Option.bind_eq_some_iff] using h
  · simpa only [Option.bind_eq_some_iff] using h

theorem lendCellsK_spec {H : Heap} {r : R} : ∀ (xs : List AV) (c : List (D × Bool) → Option R), lendCellsK H xs c = some r → ∃ ds, xs.mapM (lendCell H) = some ds ∧ c ds = some r
  | [], c, h => ⟨[], by simp, h⟩
  | x :: xs, c, h => by
    simp only [lendCellsK] at h
    obtain ⟨d, h1, h2⟩ := lendCellK_spec h
    obtain ⟨ds, h3, h4⟩ := lendCellsK_spec xs _ h2
    exact ⟨d :: ds, by simp [h1, h3], h4⟩

theorem argXK_spec {H : Heap} {x : AV} {c : XA × Bool × Option Nat → Option R} {r : R} (h : argXK H x c = some r) : ∃ v, argX H x = some v ∧ c v = some r := by
  unfold argXK at h
  split at h
  · obtain ⟨ds, h1, h2⟩ := lendCellsK_spec _ _ h
    exact ⟨_, by simp [argX, h1], h2⟩
  · simpa only [Option.bind_eq_some_iff] using h
  · rename_i h1 h2
    obtain ⟨d, h3, h4⟩ := lendCellK_spec h
    refine ⟨_, ?_, h4⟩
    unfold argX
    split
    · exact absurd rfl (h1 _)
    · exact absurd rfl (h2 _ _ _)
    · simp [h3]

theorem argsXK_spec {H : Heap} {r : R} : ∀ (xs : List AV) (c : List (XA × Bool × Option Nat) → Option R), argsXK H xs c = some r → ∃ as, xs.mapM (argX H) = some as ∧ c as = some r
  | [], c, h => ⟨[], by simp, h⟩
  | x :: xs, c, h => by
    simp only [argsXK] at h
    obtain ⟨d, h1, h2⟩ := argXK_spec h
    obtain ⟨ds, h3, h4⟩ := argsXK_spec xs _ h2
    exact ⟨d :: ds, by simp [h1, h3], h4⟩

theorem callFK_spec {E : Entry} {pol : Bool} {args : List AV} {nid : Nat} {H : Heap} {c : AV → Heap → Option R} {r : R} (h2 : callFK E pol args nid H c = some r) : ∃ v H', callF E pol args nid H = some (v, H') ∧ c v H' = some r := by
  unfold callFK at h2
  split at h2
  · rename_i hq
    simp only [Bool.and_eq_true, Bool.not_eq_true'] at hq
    simp only [callMK, Option.bind_eq_some_iff] at h2
    obtain ⟨a, h3, h4⟩ := h2
    split at h4
    · rename_i hp
      rw [splitR_spec] at h4
      change (backM (E.r a.1) a.2 H).bind _ = _ at h4
      simp only [Option.bind_eq_some_iff] at h4
      obtain ⟨r', h5, h6⟩ := h4
      refine ⟨r'.1, r'.2, ?_, h6⟩
      simp only [callF, hq.2, Bool.false_eq_true, if_false, hq.1, if_true, callM, h3, Entry.m, hp, cond_true, Option.bind_some]
      exact h5
    · simp at h4
  rename_i hnt
  obtain ⟨as, h3, h4⟩ := argsXK_spec _ _ h2
  split at h4
  · rename_i hp
    have hm : E.m (as.map (·.1)) = some (E.r (as.map (·.1))) := by simp [Entry.m, hp]
    rw [splitR_spec] at h4
    change callR _ _ _ _ _ _ (E.r (as.map (·.1))) = _ at h4
    unfold callR at h4
    split at h4
    · rename_i hq
      split at h4
      · rename_i hc
        simp only [Option.bind_eq_some_iff] at h4
        obtain ⟨x, h5, h6⟩ := h4
        refine ⟨x, H, ?_, h6⟩
        simp only [callF, hq, if_true]
        have : callQ E args H = some x := by
          unfold callQ
          simp only [h3, hm, Option.bind_some]
          rw [if_pos hc]
          exact h5
        rw [this]
        rfl
      · simp at h4
    · rename_i hq
      split at h4
      · rename_i hmk
        split at h4
        · rename_i hc
          simp only [Option.bind_eq_some_iff] at h4
          obtain ⟨p, h6, h7⟩ := h4
          refine ⟨packA p.1, p.2, ?_, h7⟩
          have ht : E.turns = false := by
            have hq' : E.quiet = false := by simpa using hq
            simpa [hq'] using hnt
          simp only [callF, hq, ht, hmk, if_true]
          simp only [Bool.false_eq_true, if_false, callN, h3, hm, Option.bind_some]
          rw [if_pos hc]
          simp [h6]
        · simp at h4
      rename_i hmk
      split at h4
      · rename_i hc
        simp only [Option.bind_eq_some_iff] at h4
        obtain ⟨H1, h5, p, h6, h7⟩ := h4
        refine ⟨packA p.1, p.2, ?_, h7⟩
        have ht : E.turns = false := by
          have hq' : E.quiet = false := by simpa using hq
          simpa [hq'] using hnt
        simp only [callF, hq, ht, hmk]
        simp only [Bool.false_eq_true, if_false, callA, h3, hm, Option.bind_some]
        rw [if_pos hc]
        simp [h5, h6]
      · simp at h4
  · simp at h4

theorem opK1_spec {P : Program} {X : List Entry} {A : Ann} {o : Oper} {t : List AV} {H : Heap} {c : AV → Heap → Option R} {r : R} (h : opK1 P X A o t H c = some r) : ∃ v H', opF1 P X A o t H = some (v, H') ∧ c v H' = some r := by
  have pure1 : ∀ {y : Option AV}, (∃ v, y = some v ∧ c v H = some r) → opF1 P X A o t H = noH H y → ∃ v H', opF1 P X A o t H = some (v, H') ∧ c v H' = some r := by
    rintro y ⟨v, rfl, h2⟩ he
    exact ⟨v, H, by rw [he]; rfl, h2⟩
  have rest : ((opF1 P X A o t H).bind fun r => c r.1 r.2) = some r → ∃ v H', opF1 P X A o t H = some (v, H') ∧ c v H' = some r := by
    intro h
    simp only [Option.bind_eq_some_iff] at h
    obtain ⟨⟨v, H'⟩, h1, h2⟩ := h
    exact ⟨v, H', h1, h2⟩
  obtain ⟨dst, op, ty0, pos, after, guard⟩ := o
  unfold opK1 at h
  split at h
  · rename_i heq
    simp only at heq
    subst heq
    exact ⟨_, _, rfl, h⟩
  · rename_i heq
    simp only at heq
    subst heq
    exact pure1 (loadK_spec h) rfl
  · rename_i heq
    simp only at heq
    subst heq
    obtain ⟨H', h1, h2⟩ := storeK_spec h
    exact ⟨_, _, by simp [opF1, h1], h2⟩
  · rename_i heq
    simp only at heq
    subst heq
    exact pure1 (binK_spec h) rfl
  · rename_i heq
    simp only at heq
    subst heq
    exact pure1 (sliceK_spec h) rfl
  · rename_i heq
    simp only at heq
    subst heq
    exact pure1 (indexAddrK_spec h) rfl
  · rename_i heq
    simp only at heq
    subst heq
    exact pure1 (indexK_spec h) rfl
  · rename_i heq
    simp only at heq
    subst heq
    exact makeSliceK_spec h
  · rename_i cl heq
    simp only at heq
    subst heq
    obtain ⟨callee, args, argTypes⟩ := cl
    simp only at h
    split at h
    · rename_i f
      simp only [Option.bind_eq_some_iff] at h
      obtain ⟨E, h1, h2⟩ := h
      split at h2
      · rename_i hq
        simp only [Bool.and_eq_true, Bool.not_eq_true'] at hq
        simp only [callMK, Option.bind_eq_some_iff] at h2
        obtain ⟨a, h3, h4⟩ := h2
        split at h4
        · rename_i hp
          rw [splitR_spec] at h4
          change (backM (E.r a.1) a.2 H).bind _ = _ at h4
          simp only [Option.bind_eq_some_iff] at h4
          obtain ⟨r', h5, h6⟩ := h4
          refine ⟨r'.1, r'.2, ?_, h6⟩
          simp only [opF1, h1, Option.bind_some, hq.2, Bool.false_eq_true, if_false, hq.1, if_true, callM, h3, Entry.m, hp, cond_true]
          exact h5
        · simp at h4
      rename_i hnt
      obtain ⟨as, h3, h4⟩ := argsXK_spec _ _ h2
      split at h4
      · rename_i hp
        have hm : E.m (as.map (·.1)) = some (E.r (as.map (·.1))) := by simp [Entry.m, hp]
        rw [splitR_spec] at h4
        change callR _ _ _ _ _ _ (E.r (as.map (·.1))) = _ at h4
        unfold callR at h4
        split at h4
        · rename_i hq
          split at h4
          · rename_i hc
            simp only [Option.bind_eq_some_iff] at h4
            obtain ⟨x, h5, h6⟩ := h4
            refine ⟨x, H, ?_, h6⟩
            simp only [opF1, h1, Option.bind_some, hq, if_true]
            have : callQ E (evalArgs P f t args) H = some x := by
              unfold callQ
              simp only [h3, hm, Option.bind_some]
              rw [if_pos hc]
              exact h5
            rw [this]
            rfl
          · simp at h4
        · rename_i hq
          split at h4
          · rename_i hmk
            split at h4
            · rename_i hc
              simp only [Option.bind_eq_some_iff] at h4
              obtain ⟨p, h6, h7⟩ := h4
              refine ⟨packA p.1, p.2, ?_, h7⟩
              have ht : E.turns = false := by
                have hq' : E.quiet = false := by simpa using hq
                simpa [hq'] using hnt
              simp only [opF1, h1, Option.bind_some, hq, ht, hmk, if_true]
              simp only [Bool.false_eq_true, if_false, callN, h3, hm, Option.bind_some]
              rw [if_pos hc]
              simp [h6]
            · simp at h4
          rename_i hmk
          split at h4
          · rename_i hc
            simp only [Option.bind_eq_some_iff] at h4
            obtain ⟨H1, h5, p, h6, h7⟩ := h4
            refine ⟨packA p.1, p.2, ?_, h7⟩
            have ht : E.turns = false := by
              have hq' : E.quiet = false := by simpa using hq
              simpa [hq'] using hnt
            simp only [opF1, h1, Option.bind_some, hq, ht, hmk]
            simp only [Bool.false_eq_true, if_false, callA, h3, hm, Option.bind_some]
            rw [if_pos hc]
            simp [h5, h6]
          · simp at h4
      · simp at h4
    · rename_i x0 hnf
      split at h
      case h_3 => simp at h
      case h_2 =>
        rename_i rb dom G hx0
        obtain ⟨v, h1, h2⟩ := callFnK_spec h
        exact ⟨v, H, by simp only [opF1, hx0, h1]; rfl, h2⟩
      rename_i f ds hx0
      simp only [Option.bind_eq_some_iff] at h
      obtain ⟨E, h1, h2⟩ := h
      split at h2
      case isFalse => simp at h2
      rename_i hq
      obtain ⟨as, h3, h4⟩ := argsXK_spec _ _ h2
      split at h4
      · rename_i hp
        have hm : E.m (as.map (·.1)) = some (E.r (as.map (·.1))) := by simp [Entry.m, hp]
        rw [splitR_spec] at h4
        change callR _ _ _ _ _ _ (E.r (as.map (·.1))) = _ at h4
        unfold callR at h4
        rw [if_pos hq] at h4
        split at h4
        · rename_i hc
          simp only [Option.bind_eq_some_iff] at h4
          obtain ⟨x, h5, h6⟩ := h4
          refine ⟨x, H, ?_, h6⟩
          have : callQ E (args.toList.map (evalA t) ++ ds.map AV.imm) H = some x := by
            unfold callQ
            simp only [h3, hm, Option.bind_some]
            rw [if_pos hc]
            exact h5
          simp only [opF1, hx0, h1, Option.bind_some, hq, if_true, this]
          rfl
        · simp at h4
      · simp at h4
    · rename_i rr nm
      simp only [Option.bind_eq_some_iff] at h
      obtain ⟨E, h1, h2⟩ := h
      obtain ⟨v, H', g1, g2⟩ := callFK_spec h2
      exact ⟨v, H', by simp only [opF1, h1, Option.bind_some]; exact g1, g2⟩
    · split at h
      · rename_i e1 e2
        split at h
        · rename_i ht
          obtain ⟨v, H', h1, h2⟩ := appendSK_spec h
          refine ⟨v, H', ?_, h2⟩
          simp only [opF1, e1, e2]
          rw [if_pos ht]
          exact h1
        · rename_i ht
          obtain ⟨v, H', h1, h2⟩ := appendZZK_spec h
          refine ⟨v, H', ?_, h2⟩
          simp only [opF1, e1, e2]
          rw [if_neg ht]
          exact h1
      · simp at h
    · split at h
      · rename_i e1 e2
        obtain ⟨v, H', h1, h2⟩ := copyK_spec h
        refine ⟨v, H', ?_, h2⟩
        simp only [opF1, e1, e2]
        exact h1
      · simp at h
    · exact rest h
  · exact rest h

theorem opK_spec {P : Program} {X : List Entry} {A : Ann} {o : Oper} {t : List AV} {H : Heap} {c : AV → Heap → Option R} {r : R} (h : opK P X A o t H c = some r) : ∃ v H', opF P X A o t H = some (v, H') ∧ c v H' = some r := by
  unfold opK at h
  split at h
  · rename_i hb
    obtain ⟨v, H', h1, h2⟩ := opK1_spec h
    exact ⟨v, H, by unfold opF; rw [hb, h1]; rfl, h2⟩
  · rename_i hb
    obtain ⟨v, H', h1, h2⟩ := opK1_spec h
    exact ⟨v, H', by unfold opF; rw [hb]; exact h1, h2⟩

end
end Go.Ab
