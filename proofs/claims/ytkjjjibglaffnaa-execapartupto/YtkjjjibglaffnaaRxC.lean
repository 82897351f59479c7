/-
  The document's turn, in memory, between its deeds; a deed's answer is heard.
-/
import Derived.Test.YtkjjjibglaffnaaRxB
namespace Go.Proofs.Ytkjjjibglaffnaa
open Go.RowKit
set_option maxRecDepth 8000
/-- With what stands fast while a turn lasts. -/
structure Rdt where
  w0 : World
  d : Rq
  x : Xp
  t : Nat
  b : Nat
  p : Int
  s : Int
  a : Option Addr
  cap : Nat
  D : List De
/-- What lies in memory while a turn lasts. -/
structure Rt (r : Rdt) (w : World) (vh : Value) (x : Ru) : Prop where
  ex : Rx w r.d { r.x with L := x.L }
  at0 : w.heap[r.t]? = some (.cells (turC r.p x.t vh) 92 (0, 0))
  bt : ∃ c0 c1 c2 c3 c4, w.heap[r.b]? = some (.cells #[c0, c1, c2, c3, c4] 92 (0, 0))
  own : ORow heE 69 w 0 vh x.h
  dr : GRow deE w r.a r.D.length r.D
  da : ∀ y, r.a = some y → 0 < r.D.length → y.block < r.w0.heap.size ∧ ¬ r.d.In y.block
  lt : r.w0.heap.size ≤ r.t
  lb : r.w0.heap.size ≤ r.b
  ne : r.b ≠ r.t
  lh : ∀ k, vh.ownBlock = some k → r.w0.heap.size ≤ k
  lx : ∀ k, r.d.In k ∨ r.d.Row { r.x with L := x.L } k → k < r.w0.heap.size
  go : But r.d.In r.w0 w
  st : x.t.In r.s
  sm : r.s ≤ 1048576
  p0 : 0 ≤ r.p
  ps : r.x.st[r.p.toNat]? = some r.s
theorem Rt.next {r : Rdt} {w w' : World} {vh : Value} {x x' : Ru} (h : Rt r w vh x) {S : Nat → Prop} (b : But S w w') (hS : ∀ k, S k → r.d.In k) (ex : Rx w' r.d { r.x with L := x'.L }) (hl : x'.L.length = x.L.length) (ht : x'.t = x.t) (hh : x'.h = x.h) : Rt r w' vh x' := by
  have far : ∀ k, r.w0.heap.size ≤ k → ¬ S k := fun k hk s => by have := h.lx k (.inl (hS k s)); omega
  obtain ⟨c0, c1, c2, c3, c4, hb⟩ := h.bt
  refine ⟨ex, (b.block _ (blk_lt h.at0) (far _ h.lt)).trans (by rw [ht]; exact h.at0), ⟨c0, c1, c2, c3, c4, (b.block _ (blk_lt hb) (far _ h.lb)).trans hb⟩, by rw [hh]; exact own_but h.own b (fun k hk => far _ (h.lh k hk)), h.dr.but b (fun y hy hn s => (h.da y hy hn).2 (hS _ s)), h.da, h.lt, h.lb, h.ne, h.lh, fun k hk => h.lx k ?_, h.go.then b (fun k _ s => hS k s), by rw [ht]; exact h.st, h.sm, h.p0, h.ps⟩
  unfold Rq.Row at hk ⊢
  dsimp only at hk ⊢
  rw [← hl]
  exact hk
theorem Rt.after {r : Rdt} {w w' : World} {vh : Value} {x : Ru} (h : Rt r w vh x) (a : After w w') : Rt r w' vh x :=
  h.next a (fun _ t => t.elim) (h.ex.after a) rfl rfl rfl
/-- The turn's box is stored into. -/
theorem Rt.set {r : Rdt} {w : World} {vh : Value} {x : Ru} (h : Rt r w vh x) {t' : Tn} (i : Nat) (u : Value) (e : (turC r.p x.t vh).setIfInBounds i u = turC r.p t' vh) (hi : t'.In r.s) : Rt r (w.setCell ⟨r.t, i, none⟩ u) vh ⟨t', x.L, x.g, x.h⟩ := by
  have b := but_one w r.t i u
  obtain ⟨c0, c1, c2, c3, c4, hb⟩ := h.bt
  have far : ∀ k, k < r.w0.heap.size → ¬ One r.t k := fun k hk s => by have s : k = r.t := s; have := h.lt; omega
  refine ⟨h.ex.but b (fun k hk => far k (h.lx k (.inl hk))) (fun k hk => far k (h.lx k (.inr hk))), by rw [← e]; exact blk_put h.at0 i u, ⟨c0, c1, c2, c3, c4, (b.block _ (blk_lt hb) (fun s => h.ne s)).trans hb⟩, own_but h.own b (fun k hk s => own_farT h.own (by decide) h.at0 (by rw [hk]; exact congrArg some s)), h.dr.but b (fun y hy hn => far _ (h.da y hy hn).1), h.da, h.lt, h.lb, h.ne, h.lh, h.lx, h.go.then b (fun k hk s => (far k hk s).elim), hi, h.sm, h.p0, h.ps⟩
/-- What was heard is appended, and not yet stored. -/
def AirT (r : Rdt) (vh : Value) (x : Ru) (y : He) (g : Nat) (d : De) (v : Value) (w : World) : Prop :=
  ∃ w2 q cap, v = .slice (some ⟨q, 0, none⟩) (x.h.length + 1) cap ∧ Rt r w2 vh x ∧ Box w2 g d ∧ ORow heE 69 w 0 v (x.h ++ [y]) ∧ But (fun k => vh.ownBlock = some k) w2 w ∧ (vh.ownBlock = some q ∨ q = w2.heap.size) ∧ q < w.heap.size
theorem AirT.box {r : Rdt} {vh : Value} {x : Ru} {y : He} {g : Nat} {d : De} {v : Value} {w : World} (h : AirT r vh x y g d v w) : Box w g d := by
  obtain ⟨w2, q, cap, _, h1, h2, _, h4, _⟩ := h
  exact h2.but h4 (own_farT h1.own (by decide) h2)
theorem AirT.at1 {r : Rdt} {vh : Value} {x : Ru} {y : He} {g : Nat} {d : De} {v : Value} {w : World} (h : AirT r vh x y g d v w) : w.heap[r.t]? = some (.cells (turC r.p x.t vh) 92 (0, 0)) := by
  obtain ⟨w2, q, cap, _, h1, _, _, h4, _⟩ := h
  exact (h4.block _ (blk_lt h1.at0) (own_farT h1.own (by decide) h1.at0)).trans h1.at0
theorem AirT.land {r : Rdt} {vh : Value} {x : Ru} {y : He} {g : Nat} {d : De} {v : Value} {w : World} (h : AirT r vh x y g d v w) :
    Rt r (w.setCell ⟨r.t, 4, none⟩ v) v { x with h := x.h ++ [y] } ∧ Box (w.setCell ⟨r.t, 4, none⟩ v) g d := by
  have hb := h.box
  have h1' := h.at1
  obtain ⟨w2, q, cap, rfl, h1, h2, h3, h4, h5, h6⟩ := h
  obtain ⟨c0, c1, c2, c3, c4, hbt⟩ := h1.bt
  have bs := but_one w r.t 4 (.slice (some ⟨q, 0, none⟩) (x.h.length + 1) cap)
  have oq : ∀ k, (Value.slice (some ⟨q, 0, none⟩) (x.h.length + 1) cap).ownBlock = some k → k = q := fun k hk => by cases hk; rfl
  have b : But (fun k => vh.ownBlock = some k ∨ k = r.t) w2 (w.setCell ⟨r.t, 4, none⟩ (.slice (some ⟨q, 0, none⟩) (x.h.length + 1) cap)) := (h4.mono (fun _ _ h => .inl h)).then bs (fun _ _ h => .inr h)
  have far : ∀ k, k < r.w0.heap.size → ¬ (vh.ownBlock = some k ∨ k = r.t) := fun k hk s => by
    rcases s with s | s
    · have := h1.lh k s; omega
    · have := h1.lt; omega
  have hq : q ≠ r.t := fun e => by
    rcases h5 with h5 | h5
    · exact own_farT h1.own (by decide) h1.at0 (by rw [h5, e])
    · have := blk_lt h1.at0; omega
  refine ⟨⟨h1.ex.but b (fun k hk => far k (h1.lx k (.inl hk))) (fun k hk => far k (h1.lx k (.inr hk))), blk_put h1' 4 _, ⟨c0, c1, c2, c3, c4, (b.block _ (blk_lt hbt) (fun s => ?_)).trans hbt⟩, own_but h3 bs (fun k hk e => hq ((oq k hk).symm.trans e)), h1.dr.but b (fun z hz hn => far _ (h1.da z hz hn).1), h1.da, h1.lt, h1.lb, h1.ne, fun k hk => ?_, h1.lx, h1.go.then b (fun k hk s => (far k hk s).elim), h1.st, h1.sm, h1.p0, h1.ps⟩, hb.but bs (fun e => ?_)⟩
  · rcases s with s | s
    · exact own_farT h1.own (by decide) hbt s
    · exact h1.ne s
  · rw [oq k hk]
    rcases h5 with h5 | h5
    · exact h1.lh q h5
    · have := h1.go.size; omega
  · have e : g = r.t := e
    rw [e, Box] at hb
    rw [h1'] at hb
    simp at hb
theorem AirT.slice {r : Rdt} {vh : Value} {x : Ru} {y : He} {g : Nat} {d : De} {v : Value} {w : World} (h : AirT r vh x y g d v w) : ∃ q cap, v = .slice (some ⟨q, 0, none⟩) (x.h.length + 1) cap := by
  obtain ⟨w2, q, cap, e, _⟩ := h
  exact ⟨q, cap, e⟩
theorem Rt.slice {r : Rdt} {w : World} {vh : Value} {x : Ru} (h : Rt r w vh x) : ∃ a c, vh = .slice a x.h.length c := by
  obtain ⟨a, c, e, _⟩ := h.own.row
  exact ⟨a, c, e⟩
theorem Rt.cells {r : Rdt} {w : World} {vh : Value} {x : Ru} (h : Rt r w vh x) : w.cell? ⟨r.t, 0, none⟩ = some (.int .i64 r.p) ∧ w.cell? ⟨r.t, 1, none⟩ = some (.int .i64 x.t.u) ∧ w.cell? ⟨r.t, 2, none⟩ = some (.bool x.t.ov) ∧ w.cell? ⟨r.t, 3, none⟩ = some (.bool x.t.fa) ∧ w.cell? ⟨r.t, 4, none⟩ = some vh := ⟨blk_cell h.at0 rfl, blk_cell h.at0 rfl, blk_cell h.at0 rfl, blk_cell h.at0 rfl, blk_cell h.at0 rfl⟩
/-- The exec's steps, and this partition's. -/
theorem Rt.steps {r : Rdt} {w : World} {vh : Value} {x : Ru} (h : Rt r w vh x) : ∃ b off, r.d.sa = some ⟨b, off, none⟩ ∧ w.cell? ⟨r.d.q, 1, none⟩ = some (.slice (some ⟨b, off, none⟩) r.x.st.length r.d.sc) ∧ w.cell? ⟨b, off + r.p.toNat, none⟩ = some (.int .i64 r.s) ∧ b < w.heap.size ∧ r.p.toNat < r.x.st.length := by
  have hl : r.p.toNat < r.x.st.length := (List.getElem?_eq_some_iff.1 h.ps).1
  obtain ⟨b, off, z, e, hb, hz, c⟩ := in_at h.ex.rs hl
  have h1 : w.cell? ⟨r.d.q, 1, none⟩ = some (.slice r.d.sa r.x.st.length r.d.sc) := blk_cell h.ex.at0 (i := 1) rfl
  have h2 : z = r.s := Option.some.inj (hz.symm.trans h.ps)
  rw [h2] at c
  exact ⟨b, off, e, by rw [← e]; exact h1, c, hb, hl⟩
theorem Rt.rput {r : Rdt} {w : World} {vh : Value} {x : Ru} (h : Rt r w vh x) (hv : vh.oneCell' = true) (i v : Int) : Calls Try.prog 41 #[Ptr r.d.q, .agg (turC r.p x.t vh), .int .i64 i, .int .i64 v] w fun e w' => e = .returned (.bool (putA x.L r.p x.t i)) ∧ Rt r w' vh ⟨x.t, putL x.L r.p x.t i v, x.g, x.h⟩ ∧ ∀ g d, Box w g d → Box w' g d :=
  (rput_any h.ex r.p x.t vh hv i v).mono (fun _e _w' ⟨e1, h1, h2⟩ => ⟨e1, h.next h2 (fun _ s => s) h1 (putL_len ..) rfl rfl, fun g d hb => hb.but h2 (fun s => by
    rcases s with s | s | s
    · have := h.ex.at0; rw [← s] at this; rw [Box, this] at hb; simp at hb
    · have := h.ex.bh; rw [← s] at this; rw [Box, this] at hb; simp at hb
    · have := h.ex.bv; rw [← s] at this; rw [Box, this] at hb; simp at hb)⟩)
theorem Rt.rget {r : Rdt} {w : World} {vh : Value} {x : Ru} (h : Rt r w vh x) (i v : Int) : Calls Try.prog 40 #[Ptr r.d.q, .int .i64 r.p, .int .i64 i] w fun e w' => e = .returned (.agg #[.int .i64 (getA x.L r.p i).v, .bool (getA x.L r.p i).is]) ∧ Rt r w' vh ⟨x.t, x.L, v, x.h⟩ ∧ ∀ g d, Box w g d → Box w' g d :=
  (rget_any h.ex r.p i).mono (fun _e _w' ⟨e1, h1⟩ => ⟨e1, h.next (x' := ⟨x.t, x.L, v, x.h⟩) h1 (fun _ t => t.elim) (h.ex.after h1) rfl rfl rfl, fun _g _d hb => hb.but h1 (fun t => t)⟩)
def QT1 (r : Rdt) (vh : Value) (x : Ru) (g : Nat) (d : De) : World → Prop := fun w => Rt r w vh x ∧ Box w g d
def QT2 (r : Rdt) (vh : Value) (x : Ru) (y : He) (g : Nat) (d : De) : Value → World → Prop := fun v w => ∃ q, v = .slice (some ⟨q, 0, none⟩) 1 1 ∧ w.heap[q]? = some (.cells #[.int .i64 y.v, .bool y.is] 69 (0, 0)) ∧ Rt r w vh x ∧ Box w g d
def QT4 (r : Rdt) (x : Ru) (g : Nat) (d : De) : World → Prop := fun w => ∃ vh, Rt r w vh x ∧ Box w g d
theorem qt2_of {r : Rdt} {vh : Value} {x : Ru} {g : Nat} {d : De} {w : World} (y : He) (h : QT1 r vh x g d w) : QT2 r vh x y g d (.slice (some ⟨w.heap.size, 0, none⟩) 1 1) (w.alloc (.cells #[.int .i64 y.v, .bool y.is] 69)) :=
  ⟨_, rfl, heap_alloc_new w _, h.1.after (After.rfl.alloc _), h.2.but (After.rfl.alloc (.cells #[.int .i64 y.v, .bool y.is] 69)) (fun t => t)⟩
theorem qt1_start {r : Rdt} {vh : Value} {x : Ru} {g : Nat} {d : De} {w : World} (h : QT1 r vh x g d w) : QT1 r vh x g d w.drew :=
  ⟨h.1.after (But.drew But.rfl), h.2.but (S := Non) (But.drew But.rfl) (fun t => t)⟩
/-- The four steps, and one more load that they wait for. -/
structure ChV (m c b a s l : Nat) (P0 : World → Prop) (P1 P2 P3 : Value → World → Prop) (P4 : World → Prop) (L : Nat → Bool) (u : Nat → Value) (w : World) : Prop where
  i5 : L a = true → L m = true
  ch : ChW c b a s l P0 P1 P2 P3 P4 L u w
section
variable {m c b a s l : Nat} {P0 : World → Prop} {P1 P2 P3 : Value → World → Prop} {P4 : World → Prop} {L : Nat → Bool} {u : Nat → Value} {w w' : World}
theorem ChV.start (h : P0 w) : ChV m c b a s l P0 P1 P2 P3 P4 (fun _ => false) u w := ⟨fun h => (by cases h), ChW.start h⟩
theorem more_of {k i : Nat} (h : L i = true) : more L k i = true := by
  unfold more
  rw [h]; rfl
theorem ChV.keep {T : Tab} {k : Nat} {v : Value} (h1 : c ≠ k) (h2 : b ≠ k) (h3 : a ≠ k) (h4 : s ≠ k) (d1 : T.D c ≠ T.D k) (d2 : T.D b ≠ T.D k) (d3 : T.D a ≠ T.D k) (L : Nat → Bool) (u : Nat → Value) (w : World) (x : ChV m c b a s l P0 P1 P2 P3 P4 L u w) : ChV m c b a s l P0 P1 P2 P3 P4 (more L k) (T.set k v u) w :=
  ⟨fun h => more_of (x.i5 (by rw [more_ne L h3] at h; exact h)), ChW.keep h1 h2 h3 h4 d1 d2 d3 L u w x.ch⟩
theorem ChV.call {T : Tab} {v : Value} (h2 : b ≠ c) (h3 : a ≠ c) (h4 : s ≠ c) (x : ChV m c b a s l P0 P1 P2 P3 P4 L u w) (h : L c = false) (p : P1 v w') : ChV m c b a s l P0 P1 P2 P3 P4 (more L c) (T.set c v u) w' :=
  ⟨fun h => more_of (x.i5 (by rw [more_ne L h3] at h; exact h)), ChW.call h2 h3 h4 x.ch h p⟩
theorem ChV.lit {T : Tab} {v : Value} (h1 : c ≠ b) (h3 : a ≠ b) (h4 : s ≠ b) (x : ChV m c b a s l P0 P1 P2 P3 P4 L u w) (hc : L c = true) (h : L b = false) (p : P2 v w') : ChV m c b a s l P0 P1 P2 P3 P4 (more L b) (T.set b v u) w' :=
  ⟨fun h => more_of (x.i5 (by rw [more_ne L h3] at h; exact h)), ChW.lit h1 h3 h4 x.ch hc h p⟩
theorem ChV.app {T : Tab} {v : Value} (h1 : c ≠ a) (h2 : b ≠ a) (h4 : s ≠ a) (x : ChV m c b a s l P0 P1 P2 P3 P4 L u w) (hm : L m = true) (hb : L b = true) (hl : L l = true) (h : L a = false) (p : P3 v w') : ChV m c b a s l P0 P1 P2 P3 P4 (more L a) (T.set a v u) w' :=
  ⟨fun _ => more_of hm, ChW.app h1 h2 h4 x.ch hb hl h p⟩
theorem ChV.store (h1 : c ≠ s) (h2 : b ≠ s) (h3 : a ≠ s) (x : ChV m c b a s l P0 P1 P2 P3 P4 L u w) (ha : L a = true) (p : P4 w') : ChV m c b a s l P0 P1 P2 P3 P4 (more L s) u w' :=
  ⟨fun _ => more_of (x.i5 ha), ChW.store h1 h2 h3 x.ch ha p⟩
theorem ChV.early {R : Prop} (x : ChV m c b a s l P0 P1 P2 P3 P4 L u w) (hl : L l = false ∨ L m = false) (h0 : P0 w → R) (h1 : ∀ v, P1 v w → R) (h2 : ∀ v, P2 v w → R) : R := by
  have ha : L a = false := by
    rcases hl with hl | hl
    · exact fls x.ch.i4 hl
    · exact fls x.i5 hl
  rcases hc : L c with _ | _
  · exact h0 (x.ch.p0 hc)
  rcases hb : L b with _ | _
  · exact h1 _ (x.ch.p1 hc hb)
  · exact h2 _ (x.ch.p2 hb ha)
end
abbrev ChT (m c b a s l : Nat) (r : Rdt) (vh : Value) (x x1 : Ru) (y : He) (g : Nat) (d : De) : (Nat → Bool) → (Nat → Value) → World → Prop :=
  ChV m c b a s l (QT1 r vh x g d) (fun _ => QT1 r vh x1 g d) (QT2 r vh x1 y g d) (AirT r vh x1 y g d) (QT4 r ⟨x1.t, x1.L, x1.g, x1.h ++ [y]⟩ g d)
section
variable {m c b a s l : Nat} {r : Rdt} {vh : Value} {x x1 : Ru} {y : He} {g : Nat} {d : De} {L : Nat → Bool} {u : Nat → Value} {w : World}
theorem cht_box (h : ChT m c b a s l r vh x x1 y g d L u w) : Box w g d :=
  ChW.any h.ch (fun h => h.2) (fun _ h => h.2) (fun _ ⟨_, _, _, _, h⟩ => h) (fun _ h => h.box) (fun ⟨_, _, h⟩ => h)
theorem cht_t (ht : x1.t = x.t) (hl : L l = false ∨ L m = false) (h : ChT m c b a s l r vh x x1 y g d L u w) : w.heap[r.t]? = some (.cells (turC r.p x.t vh) 92 (0, 0)) :=
  ChV.early h hl (fun h => h.1.at0) (fun _ h => by have := h.1.at0; rw [ht] at this; exact this) (fun _ ⟨_, _, _, h, _⟩ => by have := h.at0; rw [ht] at this; exact this)
theorem airt_of {w2 : World} {q cap : Nat} (h1 : Rt r w2 vh x1) (h2 : Box w2 g d) (h3 : ORow heE 69 w 0 (.slice (some ⟨q, 0, none⟩) (x1.h.length + 1) cap) (x1.h ++ [y])) (h4 : But (fun k => vh.ownBlock = some k) w2 w) (h5 : vh.ownBlock = some q ∨ q = w2.heap.size) (h6 : q < w.heap.size) : AirT r vh x1 y g d (.slice (some ⟨q, 0, none⟩) (x1.h.length + 1) cap) w := ⟨w2, q, cap, rfl, h1, h2, h3, h4, h5, h6⟩
end
theorem fieldTu (w : World) (b off : Nat) : (Instr.fieldAt 92 (.pointer (some ⟨b, off, none⟩)) 4).run Try.prog w = .ok (.pointer (some ⟨b, off + 4, none⟩)) w := by
  simp [go_sem]
theorem Try.infoTurn : (Try.prog.info? 92).map (·.size) = some 5 := by kernel_rfl
theorem loadTu {w : World} {b : Nat} {p : Int} {t : Tn} {vh : Value} (h0 : w.heap[b]? = some (.cells (turC p t vh) 92 (0, 0))) : (Instr.loadAt 92 (.pointer (some ⟨b, 0, none⟩))).run Try.prog w = .ok (.agg (turC p t vh)) w := by
  have := load_blk h0 Try.underlying92 rfl Try.infoTurn
  simpa [Instr.loadAt, go_sem] using this
/-- A turn, told by what is left. -/
def LeftT (r : Rdt) (R : Ru) (j : Nat) (x : Ru) (w : World) : Prop := (∃ vh, Rt r w vh x) ∧ run r.p r.s (r.D.drop j) x = R ∧ x.h.length ≤ j
end Go.Proofs.Ytkjjjibglaffnaa
