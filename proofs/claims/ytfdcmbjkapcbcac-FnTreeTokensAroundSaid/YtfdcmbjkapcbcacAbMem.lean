/-
  AN ABSTRACT LAYER, 2: how what holds of memory goes on: a draw, a new row, a row that turns, a row that ends.
-/
import Derived.Test.YtfdcmbjkapcbcacAbBase
namespace Go.Ab
variable {P : Program}

/-- From one moment to a later one: data stays, rows that are alive stay where they are. -/
structure Fwd (N : Nat → Prop) (ι : Place) (H : Heap) (w : World) (N' : Nat → Prop) (ι' : Place) (H' : Heap) (w' : World) : Prop where
  hN : ∀ b, N b → N' b
  hc : ∀ b o, N b → w'.cell? ⟨b, o, none⟩ = w.cell? ⟨b, o, none⟩
  hE : Ext H H' ι ι'

theorem Fwd.refl (N : Nat → Prop) (ι : Place) (H : Heap) (w : World) : Fwd N ι H w N ι H w := ⟨fun _ h => h, fun _ _ _ => rfl, Ext.refl _ _⟩

theorem Fwd.trans {N1 N2 N3 : Nat → Prop} {ι1 ι2 ι3 : Place} {H1 H2 H3 : Heap} {w1 w2 w3 : World} (h : Fwd N1 ι1 H1 w1 N2 ι2 H2 w2) (g : Fwd N2 ι2 H2 w2 N3 ι3 H3 w3) : Fwd N1 ι1 H1 w1 N3 ι3 H3 w3 :=
  ⟨fun b hb => g.hN b (h.hN b hb), fun b o hb => (g.hc b o (h.hN b hb)).trans (h.hc b o hb), h.hE.trans g.hE⟩

theorem RepA.fwd {w w' : World} {N N' : Nat → Prop} {H H' : Heap} {ι ι' : Place} {d : AV} {v : Value} (h : RepA P w N H ι d v) (f : Fwd N ι H w N' ι' H' w') : RepA P w' N' H' ι' d v :=
  h.mono f.hN f.hc f.hE

theorem RepD.fwd {w w' : World} {N N' : Nat → Prop} {H H' : Heap} {ι ι' : Place} {d : D} {v : Value} (h : RepD P w N d v) (f : Fwd N ι H w N' ι' H' w') : RepD P w' N' d v :=
  h.mono f.hN f.hc

theorem Marks.fwd {w w' : World} {N N' : Nat → Prop} {H H' : Heap} {ι ι' : Place} {d : List AV} {ds : List Deferred} (h : Marks P w N H ι d ds) (f : Fwd N ι H w N' ι' H' w') : Marks P w' N' H' ι' d ds := by
  obtain ⟨ms, h1, h2⟩ := h
  exact ⟨ms, h1, h2.fwd f⟩

theorem RepRow.fwd {w w' : World} {N N' : Nat → Prop} {H H' : Heap} {ι ι' : Place} {id id' : Nat} {r : Row} (h : RepRow P w N H ι id r) (f : Fwd N ι H w N' ι' H' w')
    (hι : ι' id' = ι id) (hb : ∀ b c, ι id = some (b, c) → w'.heap[b]? = w.heap[b]?) : RepRow P w' N' H' ι' id' r := by
  cases r with
  | dead => trivial
  | ints k xs =>
    rcases h with ⟨h0, h1⟩ | ⟨b, c, arr, e, h1, h2, h3, h4, h5⟩
    · exact .inl ⟨hι.trans h0, h1⟩
    · exact .inr ⟨b, c, arr, e, hι.trans h1, (hb b c h1).trans h2, h3, h4, h5⟩
  | ds s xs =>
    obtain ⟨hs, h⟩ := h
    refine ⟨hs, ?_⟩
    rcases h with ⟨h0, h1⟩ | ⟨b, c, arr, e, h1, h2, h3, h4, g, h5⟩
    · exact .inl ⟨hι.trans h0, h1⟩
    · exact .inr ⟨b, c, arr, e, hι.trans h1, (hb b c h1).trans h2, h3, h4, g, fun i hi => ⟨(h5 i hi).1, (h5 i hi).2.fwd f⟩⟩
  | box cs =>
    obtain ⟨b, c, arr, e, h1, h2, h3, h4, g, h5⟩ := h
    exact ⟨b, c, arr, e, hι.trans h1, (hb b c h1).trans h2, h3, h4, g, fun i hi => ⟨(h5 i hi).1, (h5 i hi).2.fwd f⟩⟩
  | loop me ts ps as bd st =>
    obtain ⟨b, c, L, h1, h2, h3, h4, h5, h6, h7, h8, h9⟩ := h
    exact ⟨b, c, L, hι.trans h1, (hb b c h1).trans h2, h3, h4, h5, h6, h7, h8, fun i hi => (h9 i hi).fwd f⟩
  | dfr =>
    obtain ⟨b, c, h1, h2⟩ := h
    exact ⟨b, c, hι.trans h1, (hb b c h1).trans h2⟩

section
variable {w0 : World} {S N0 : Nat → Prop} {H : Heap} {w : World} {N : Nat → Prop} {ι : Place}

theorem Inv.drew (h : Inv P w0 S N0 H w N ι) : Inv P w0 S N0 H w.drew N ι :=
  ⟨⟨h.keeps.os, h.keeps.tape, h.keeps.output, h.keeps.size, h.keeps.block, h.keeps.cells⟩,
   fun id r hr => (h.rows id r hr).fwd (w' := w.drew) ⟨fun _ h => h, fun _ _ _ => rfl, Ext.refl _ _⟩ rfl (fun _ _ _ => rfl), h.inj, h.own, h.lt, h.old, h.new⟩

theorem Fwd.drew : Fwd N ι H w N ι H w.drew := ⟨fun _ h => h, fun _ _ _ => rfl, Ext.refl _ _⟩

/-- A new block for a new row. -/
theorem Inv.allocO (h : Inv P w0 S N0 H w N ι) {id : Nat} (hid : H id = none) (o : Obj) (cc : Nat) (r : Row)
    (hr : ∀ ι' H' w', ι' = (fun x => if x = id then some (w.heap.size, cc) else ι x) → H' = H.set id r → w' = w.alloc o → Fwd N ι H w N ι' H' w' → RepRow P w' N H' ι' id r) :
    ∃ ι', ι' id = some (w.heap.size, cc) ∧ Inv P w0 S N0 (H.set id r) (w.alloc o) N ι' ∧ Fwd N ι H w N ι' (H.set id r) (w.alloc o) := by
  have hne : ∀ x, H x ≠ none → x ≠ id := fun x hx e => hx (e ▸ hid)
  have hf : Fwd N ι H w N (fun x => if x = id then some (w.heap.size, cc) else ι x) (H.set id r) (w.alloc o) := by
    refine ⟨fun _ h => h, fun b o hb => ?_, fun x rx hx => ?_⟩
    · exact World.cell?_alloc_lt (a := ⟨b, o, none⟩) w _ (h.lt b hb)
    · have : x ≠ id := hne x (by rw [hx]; simp)
      exact ⟨rx, by simp [Heap.set, this, hx], fun hl => ⟨hl, rfl, by simp [this]⟩⟩
  refine ⟨_, by simp, ⟨⟨h.keeps.os, h.keeps.tape, h.keeps.output, ?_, fun b hb hS => ?_, fun k arr0 e0 hS hk => ?_⟩, fun x rx hx => ?_, ?_, ?_, ?_, h.old, h.new⟩, hf⟩
  · have := h.keeps.size; simp; omega
  · rw [Go.RowKit.Below.heap_alloc _ _ _ (by have := h.keeps.size; omega)]; exact h.keeps.block b hb hS
  · obtain ⟨a1, e1, g1, g2⟩ := h.keeps.cells k arr0 e0 hS hk
    exact ⟨a1, e1, by rw [Go.RowKit.Below.heap_alloc _ _ _ (Array.getElem?_eq_some_iff.1 g1).1]; exact g1, g2⟩
  · by_cases hxi : x = id
    · subst hxi
      simp [Heap.set] at hx
      subst hx
      exact hr _ _ _ rfl rfl rfl hf
    · have hx' : H x = some rx := by simpa [Heap.set, hxi] using hx
      by_cases hlx : rx.live = true
      · refine (h.rows x rx hx').fwd hf (by simp [hxi]) fun b c hb => ?_
        exact Go.RowKit.Below.heap_alloc _ _ _ (h.blk hx' hlx hb)
      · cases rx <;> first | trivial | simp [Row.live] at hlx
  · intro x y rx ry b c c' hx hy hlx hly hbx hby
    by_cases hxi : x = id <;> by_cases hyi : y = id
    · exact hxi.trans hyi.symm
    · subst hxi
      have hy' : H y = some ry := by simpa [Heap.set, hyi] using hy
      simp at hbx
      simp [hyi] at hby
      have := h.blk hy' hly hby
      omega
    · subst hyi
      have hx' : H x = some rx := by simpa [Heap.set, hxi] using hx
      simp at hby
      simp [hxi] at hbx
      have := h.blk hx' hlx hbx
      omega
    · exact h.inj x y rx ry b c c' (by simpa [Heap.set, hxi] using hx) (by simpa [Heap.set, hyi] using hy) hlx hly (by simpa [hxi] using hbx) (by simpa [hyi] using hby)
  · intro x rx b c hx hlx hbx
    by_cases hxi : x = id
    · subst hxi
      simp at hbx
      obtain ⟨rfl, rfl⟩ := hbx
      exact ⟨.inr h.keeps.size, fun hb => Nat.lt_irrefl _ (h.lt _ hb)⟩
    · exact h.own x rx b c (by simpa [Heap.set, hxi] using hx) hlx (by simpa [hxi] using hbx)
  · intro b hb
    have := h.lt b hb
    simp
    omega

theorem Inv.alloc (h : Inv P w0 S N0 H w N ι) {id : Nat} (hid : H id = none) (arr : Array Value) (e : TypeId) (r : Row)
    (hr : ∀ ι' H' w', ι' = (fun x => if x = id then some (w.heap.size, arr.size) else ι x) → H' = H.set id r → w' = w.alloc (.cells arr e) → Fwd N ι H w N ι' H' w' → RepRow P w' N H' ι' id r) :
    ∃ ι', ι' id = some (w.heap.size, arr.size) ∧ Inv P w0 S N0 (H.set id r) (w.alloc (.cells arr e)) N ι' ∧ Fwd N ι H w N ι' (H.set id r) (w.alloc (.cells arr e)) :=
  h.allocO hid _ _ r hr

/-- A row turns, and the block in which it lies. -/
theorem Inv.upd (h : Inv P w0 S N0 H w N ι) {id : Nat} {r r' : Row} {b c : Nat} {w' : World} (hr : H id = some r) (hl : r.live = true) (hι : ι id = some (b, c)) (hsz : r'.dim = r.dim)
    (h1 : w'.os = w.os) (h2 : w'.tape = w.tape) (h3 : w'.output = w.output) (h4 : w'.heap.size = w.heap.size) (h5 : ∀ k, k ≠ b → w'.heap[k]? = w.heap[k]?)
    (h6 : ∃ arr e arr' e', w.heap[b]? = some (.cells arr e (0, 0)) ∧ w'.heap[b]? = some (.cells arr' e' (0, 0)) ∧ arr'.size = arr.size)
    (hr' : Fwd N ι H w N ι (H.set id r') w' → RepRow P w' N (H.set id r') ι id r') :
    Inv P w0 S N0 (H.set id r') w' N ι ∧ Fwd N ι H w N ι (H.set id r') w' := by
  obtain ⟨ho, hnN⟩ := h.own id r b c hr hl hι
  have hf : Fwd N ι H w N ι (H.set id r') w' := by
    refine ⟨fun _ h => h, fun k o hk => ?_, fun x rx hx => ?_⟩
    · exact World.cell?_of_block (h5 k fun e => hnN (e ▸ hk))
    · by_cases hxi : x = id
      · subst hxi
        rw [hr] at hx
        cases hx
        exact ⟨r', by simp [Heap.set], fun _ => ⟨hl, hsz, rfl⟩⟩
      · exact ⟨rx, by simp [Heap.set, hxi, hx], fun hl => ⟨hl, rfl, rfl⟩⟩
  refine ⟨⟨⟨h1.trans h.keeps.os, h2.trans h.keeps.tape, h3.trans h.keeps.output, by rw [h4]; exact h.keeps.size, fun k hk hS => ?_, fun k arr0 e0 hS hk => by
    obtain ⟨a1, e1, g1, g2⟩ := h.keeps.cells k arr0 e0 hS hk
    by_cases hkb : k = b
    · subst hkb
      obtain ⟨p, pe, p', pe', x1, x2, x3⟩ := h6
      rw [g1] at x1
      cases x1
      exact ⟨p', pe', x2, x3.trans g2⟩
    · exact ⟨a1, e1, by rw [h5 k hkb]; exact g1, g2⟩⟩, fun x rx hx => ?_, fun x y rx ry bb cc cc' hx hy hlx hly hbx hby => ?_, fun x rx bb cc hx hlx hbx => ?_, fun k hk => by rw [h4]; exact h.lt k hk, h.old, h.new⟩, hf⟩
  · rw [h5 k ?_]
    · exact h.keeps.block k hk hS
    · rintro rfl
      rcases ho with ho | ho
      · exact hS ho
      · omega
  · by_cases hxi : x = id
    · subst hxi
      simp [Heap.set] at hx
      subst hx
      exact hr' hf
    · have hx' : H x = some rx := by simpa [Heap.set, hxi] using hx
      by_cases hlx : rx.live = true
      · refine (h.rows x rx hx').fwd hf rfl fun bb cc hbb => h5 bb ?_
        rintro rfl
        exact hxi (h.inj x id rx r _ cc c hx' hr hlx hl hbb hι)
      · cases rx <;> first | trivial | simp [Row.live] at hlx
  · by_cases hxi : x = id <;> by_cases hyi : y = id
    · exact hxi.trans hyi.symm
    · subst hxi
      exact h.inj x y r ry bb cc cc' hr (by simpa [Heap.set, hyi] using hy) hl hly hbx hby
    · subst hyi
      exact h.inj x y rx r bb cc cc' (by simpa [Heap.set, hxi] using hx) hr hlx hl hbx hby
    · exact h.inj x y rx ry bb cc cc' (by simpa [Heap.set, hxi] using hx) (by simpa [Heap.set, hyi] using hy) hlx hly hbx hby
  · by_cases hxi : x = id
    · subst hxi
      exact h.own x r bb cc hr hl hbx
    · exact h.own x rx bb cc (by simpa [Heap.set, hxi] using hx) hlx hbx

/-- A record turns. -/
theorem Inv.updO (h : Inv P w0 S N0 H w N ι) {id : Nat} {r r' : Row} {b c : Nat} {o : Obj} {w' : World} (hr : H id = some r) (hl : r.live = true) (hι : ι id = some (b, c)) (hsz : r'.dim = r.dim)
    (h1 : w'.os = w.os) (h2 : w'.tape = w.tape) (h3 : w'.output = w.output) (h4 : w'.heap.size = w.heap.size) (h5 : ∀ k, k ≠ b → w'.heap[k]? = w.heap[k]?)
    (h6 : w.heap[b]? = some o) (h7 : ∀ arr e, o ≠ .cells arr e (0, 0))
    (hr' : Fwd N ι H w N ι (H.set id r') w' → RepRow P w' N (H.set id r') ι id r') :
    Inv P w0 S N0 (H.set id r') w' N ι ∧ Fwd N ι H w N ι (H.set id r') w' := by
  obtain ⟨ho, hnN⟩ := h.own id r b c hr hl hι
  have hf : Fwd N ι H w N ι (H.set id r') w' := by
    refine ⟨fun _ h => h, fun k o hk => ?_, fun x rx hx => ?_⟩
    · exact World.cell?_of_block (h5 k fun e => hnN (e ▸ hk))
    · by_cases hxi : x = id
      · subst hxi
        rw [hr] at hx
        cases hx
        exact ⟨r', by simp [Heap.set], fun _ => ⟨hl, hsz, rfl⟩⟩
      · exact ⟨rx, by simp [Heap.set, hxi, hx], fun hl => ⟨hl, rfl, rfl⟩⟩
  refine ⟨⟨⟨h1.trans h.keeps.os, h2.trans h.keeps.tape, h3.trans h.keeps.output, by rw [h4]; exact h.keeps.size, fun k hk hS => ?_, fun k arr0 e0 hS hk => by
    obtain ⟨a1, e1, g1, g2⟩ := h.keeps.cells k arr0 e0 hS hk
    by_cases hkb : k = b
    · subst hkb
      rw [h6] at g1
      cases g1
      exact absurd rfl (h7 _ _)
    · exact ⟨a1, e1, by rw [h5 k hkb]; exact g1, g2⟩⟩, fun x rx hx => ?_, fun x y rx ry bb cc cc' hx hy hlx hly hbx hby => ?_, fun x rx bb cc hx hlx hbx => ?_, fun k hk => by rw [h4]; exact h.lt k hk, h.old, h.new⟩, hf⟩
  · rw [h5 k ?_]
    · exact h.keeps.block k hk hS
    · rintro rfl
      rcases ho with ho | ho
      · exact hS ho
      · omega
  · by_cases hxi : x = id
    · subst hxi
      simp [Heap.set] at hx
      subst hx
      exact hr' hf
    · have hx' : H x = some rx := by simpa [Heap.set, hxi] using hx
      by_cases hlx : rx.live = true
      · refine (h.rows x rx hx').fwd hf rfl fun bb cc hbb => h5 bb ?_
        rintro rfl
        exact hxi (h.inj x id rx r _ cc c hx' hr hlx hl hbb hι)
      · cases rx <;> first | trivial | simp [Row.live] at hlx
  · by_cases hxi : x = id <;> by_cases hyi : y = id
    · exact hxi.trans hyi.symm
    · subst hxi
      exact h.inj x y r ry bb cc cc' hr (by simpa [Heap.set, hyi] using hy) hl hly hbx hby
    · subst hyi
      exact h.inj x y rx r bb cc cc' (by simpa [Heap.set, hxi] using hx) hr hlx hl hbx hby
    · exact h.inj x y rx ry bb cc cc' (by simpa [Heap.set, hxi] using hx) (by simpa [Heap.set, hyi] using hy) hlx hly hbx hby
  · by_cases hxi : x = id
    · subst hxi
      exact h.own x r bb cc hr hl hbx
    · exact h.own x rx bb cc (by simpa [Heap.set, hxi] using hx) hlx hbx

/-- A row ends: its block is free to hold data from now on (if N' lets it). -/
theorem Inv.kill (h : Inv P w0 S N0 H w N ι) {id : Nat} {r : Row} (hr : H id = some r) {N' : Nat → Prop} (hN : ∀ b, N b → N' b) (hN' : ∀ b, N' b → N b ∨ ((w0.heap.size ≤ b) ∧ r.live = true ∧ ∃ c, ι id = some (b, c))) :
    Inv P w0 S N0 (H.set id .dead) w N' ι ∧ Fwd N ι H w N' ι (H.set id .dead) w := by
  have hf : Fwd N ι H w N' ι (H.set id .dead) w := by
    refine ⟨hN, fun _ _ _ => rfl, fun x rx hx => ?_⟩
    by_cases hxi : x = id
    · subst hxi
      exact ⟨.dead, by simp [Heap.set], fun hl => by simp [Row.live] at hl⟩
    · exact ⟨rx, by simp [Heap.set, hxi, hx], fun hl => ⟨hl, rfl, rfl⟩⟩
  refine ⟨⟨h.keeps, fun x rx hx => ?_, fun x y rx ry bb cc cc' hx hy hlx hly hbx hby => ?_, fun x rx bb cc hx hlx hbx => ?_, fun k hk => ?_, fun k hk => ?_, fun k hk => hN k (h.new k hk)⟩, hf⟩
  · by_cases hxi : x = id
    · subst hxi
      simp [Heap.set] at hx
      subst hx
      trivial
    · exact (h.rows x rx (by simpa [Heap.set, hxi] using hx)).fwd hf rfl fun _ _ _ => rfl
  · have hxi : x ≠ id := by rintro rfl; simp [Heap.set] at hx; subst hx; simp [Row.live] at hlx
    have hyi : y ≠ id := by rintro rfl; simp [Heap.set] at hy; subst hy; simp [Row.live] at hly
    exact h.inj x y rx ry bb cc cc' (by simpa [Heap.set, hxi] using hx) (by simpa [Heap.set, hyi] using hy) hlx hly hbx hby
  · have hxi : x ≠ id := by rintro rfl; simp [Heap.set] at hx; subst hx; simp [Row.live] at hlx
    have hx' : H x = some rx := by simpa [Heap.set, hxi] using hx
    obtain ⟨h1, h2⟩ := h.own x rx bb cc hx' hlx hbx
    refine ⟨h1, fun hn => ?_⟩
    rcases hN' bb hn with hn | ⟨_, hlr, c, hc⟩
    · exact h2 hn
    · exact hxi (h.inj x id rx r bb cc c hx' hr hlx hlr hbx hc)
  · rcases hN' k hk with hk | ⟨_, hlr, c, hc⟩
    · exact h.lt k hk
    · exact h.blk hr hlr hc
  · rcases hN' k hk with hk | ⟨hk, _, _⟩
    · exact h.old k hk
    · exact .inr hk

/-- A new row without a block: a nil slice. -/
theorem Inv.bare (h : Inv P w0 S N0 H w N ι) {id : Nat} (hid : H id = none) (r : Row) (hr : ∀ H' ι', ι' id = none → RepRow P w N H' ι' id r) :
    ∃ ι', ι' id = none ∧ Inv P w0 S N0 (H.set id r) w N ι' ∧ Fwd N ι H w N ι' (H.set id r) w := by
  have hf : Fwd N ι H w N (fun x => if x = id then none else ι x) (H.set id r) w := by
    refine ⟨fun _ h => h, fun _ _ _ => rfl, fun x rx hx => ?_⟩
    have hxi : x ≠ id := by rintro rfl; rw [hid] at hx; cases hx
    exact ⟨rx, by simp [Heap.set, hxi, hx], fun hl => ⟨hl, rfl, by simp [hxi]⟩⟩
  refine ⟨_, by simp, ⟨h.keeps, fun x rx hx => ?_, fun x y rx ry bb cc cc' hx hy hlx hly hbx hby => ?_, fun x rx bb cc hx hlx hbx => ?_, h.lt, h.old, h.new⟩, hf⟩
  · by_cases hxi : x = id
    · subst hxi
      simp [Heap.set] at hx
      subst hx
      exact hr _ _ (by simp)
    · exact (h.rows x rx (by simpa [Heap.set, hxi] using hx)).fwd hf (by simp [hxi]) fun _ _ _ => rfl
  · have hxi : x ≠ id := by rintro rfl; simp at hbx
    have hyi : y ≠ id := by rintro rfl; simp at hby
    exact h.inj x y rx ry bb cc cc' (by simpa [Heap.set, hxi] using hx) (by simpa [Heap.set, hyi] using hy) hlx hly (by simpa [hxi] using hbx) (by simpa [hyi] using hby)
  · have hxi : x ≠ id := by rintro rfl; simp at hbx
    exact h.own x rx bb cc (by simpa [Heap.set, hxi] using hx) hlx (by simpa [hxi] using hbx)

/-- The blocks that rows lie in. -/
def Taken (H : Heap) (ι : Place) (b : Nat) : Prop := ∃ id r c, H id = some r ∧ r.live = true ∧ ι id = some (b, c)

/-- A block becomes data. -/
theorem Inv.more (h : Inv P w0 S N0 H w N ι) {b : Nat} (hb : b < w.heap.size) (ht : ¬ Taken H ι b) (hw : w0.heap.size ≤ b) :
    Inv P w0 S N0 H w (fun x => N x ∨ x = b) ι ∧ Fwd N ι H w (fun x => N x ∨ x = b) ι H w := by
  have hf : Fwd N ι H w (fun x => N x ∨ x = b) ι H w := ⟨fun _ h => .inl h, fun _ _ _ => rfl, Ext.refl _ _⟩
  refine ⟨⟨h.keeps, fun x rx hx => (h.rows x rx hx).fwd hf rfl fun _ _ _ => rfl, h.inj, fun x rx bb cc hx hl hι => ⟨(h.own x rx bb cc hx hl hι).1, ?_⟩, ?_, ?_, fun x hx => .inl (h.new x hx)⟩, hf⟩
  · rintro (hn | rfl)
    · exact (h.own x rx bb cc hx hl hι).2 hn
    · exact ht ⟨x, rx, cc, hx, hl, hι⟩
  · rintro x (hx | rfl)
    · exact h.lt x hx
    · exact hb
  · rintro x (hx | rfl)
    · exact h.old x hx
    · exact .inr hw

/-- A block becomes a row. -/
theorem Inv.adopt (h : Inv P w0 S N0 H w N ι) {b nid c : Nat} {r : Row} (hn : H nid = Option.none) (ht : ¬ Taken H ι b) (hw : S b ∨ w0.heap.size ≤ b) (hN : ¬ N b)
    (hr : ∀ H' ι', ι' nid = some (b, c) → Fwd N ι H w N ι' H' w → RepRow P w N H' ι' nid r) :
    ∃ ι', ι' nid = some (b, c) ∧ Inv P w0 S N0 (H.set nid r) w N ι' ∧ Fwd N ι H w N ι' (H.set nid r) w ∧ (∀ x, Taken (H.set nid r) ι' x → Taken H ι x ∨ x = b) := by
  have hf : Fwd N ι H w N (fun x => if x = nid then some (b, c) else ι x) (H.set nid r) w := by
    refine ⟨fun _ h => h, fun _ _ _ => rfl, fun x rx hx => ?_⟩
    have hxi : x ≠ nid := by rintro rfl; rw [hn] at hx; cases hx
    exact ⟨rx, by simp [Heap.set, hxi, hx], fun hl => ⟨hl, rfl, by simp [hxi]⟩⟩
  refine ⟨_, by simp, ⟨h.keeps, fun x rx hx => ?_, fun x y rx ry bb cc cc' hx hy hlx hly hbx hby => ?_, fun x rx bb cc hx hlx hbx => ?_, h.lt, h.old, h.new⟩, hf, ?_⟩
  · by_cases hxi : x = nid
    · subst hxi
      simp [Heap.set] at hx
      subst hx
      exact hr _ _ (by simp) hf
    · exact (h.rows x rx (by simpa [Heap.set, hxi] using hx)).fwd hf (by simp [hxi]) fun _ _ _ => rfl
  · by_cases hxi : x = nid <;> by_cases hyi : y = nid
    · exact hxi.trans hyi.symm
    · subst hxi
      simp at hbx
      simp [hyi] at hby
      exact absurd ⟨y, ry, cc', by simpa [Heap.set, hyi] using hy, hly, by rw [hbx.1]; exact hby⟩ ht
    · subst hyi
      simp at hby
      simp [hxi] at hbx
      exact absurd ⟨x, rx, cc, by simpa [Heap.set, hxi] using hx, hlx, by rw [hby.1]; exact hbx⟩ ht
    · exact h.inj x y rx ry bb cc cc' (by simpa [Heap.set, hxi] using hx) (by simpa [Heap.set, hyi] using hy) hlx hly (by simpa [hxi] using hbx) (by simpa [hyi] using hby)
  · by_cases hxi : x = nid
    · subst hxi
      simp at hbx
      obtain ⟨rfl, _⟩ := hbx
      exact ⟨hw, hN⟩
    · exact h.own x rx bb cc (by simpa [Heap.set, hxi] using hx) hlx (by simpa [hxi] using hbx)
  · rintro x ⟨id, rx, cc, hx, hl, hι⟩
    by_cases hxi : id = nid
    · subst hxi
      simp at hι
      exact .inr hι.1.symm
    · exact .inl ⟨id, rx, cc, by simpa [Heap.set, hxi] using hx, hl, by simpa [hxi] using hι⟩


/-- A block that is nobody's is written. -/
theorem Inv.poke (h : Inv P w0 S N0 H w N ι) {b : Nat} {w' : World} (ht : ¬ Taken H ι b) (hw : S b ∨ w0.heap.size ≤ b) (hN : ¬ N b)
    (h1 : w'.os = w.os) (h2 : w'.tape = w.tape) (h3 : w'.output = w.output) (h4 : w'.heap.size = w.heap.size) (h5 : ∀ k, k ≠ b → w'.heap[k]? = w.heap[k]?)
    (h6 : ∃ arr e arr' e', w.heap[b]? = some (.cells arr e (0, 0)) ∧ w'.heap[b]? = some (.cells arr' e' (0, 0)) ∧ arr'.size = arr.size) :
    Inv P w0 S N0 H w' N ι ∧ Fwd N ι H w N ι H w' := by
  have hf : Fwd N ι H w N ι H w' := ⟨fun _ h => h, fun k o hk => World.cell?_of_block (h5 k fun e => hN (e ▸ hk)), Ext.refl _ _⟩
  refine ⟨⟨⟨h1.trans h.keeps.os, h2.trans h.keeps.tape, h3.trans h.keeps.output, by rw [h4]; exact h.keeps.size, fun k hk hS => ?_, fun k arr0 e0 hS hk => by
    obtain ⟨a1, e1, g1, g2⟩ := h.keeps.cells k arr0 e0 hS hk
    by_cases hkb : k = b
    · subst hkb
      obtain ⟨p, pe, p', pe', x1, x2, x3⟩ := h6
      rw [g1] at x1
      cases x1
      exact ⟨p', pe', x2, x3.trans g2⟩
    · exact ⟨a1, e1, by rw [h5 k hkb]; exact g1, g2⟩⟩, fun x rx hx => ?_, h.inj, h.own, fun k hk => by rw [h4]; exact h.lt k hk, h.old, h.new⟩, hf⟩
  · rw [h5 k ?_]
    · exact h.keeps.block k hk hS
    · rintro rfl
      rcases hw with ho | ho
      · exact hS ho
      · omega
  · by_cases hlx : rx.live = true
    · refine (h.rows x rx hx).fwd hf rfl fun bb cc hbb => h5 bb ?_
      rintro rfl
      exact ht ⟨x, rx, cc, hx, hlx, hbb⟩
    · cases rx <;> first | trivial | simp [Row.live] at hlx
end
end Go.Ab
