/-
  The document's Tick: its rounds.
-/
import Derived.Test.YtkjjjibglaffnaaRxF
namespace Go.Proofs.Ytkjjjibglaffnaa
open Go.RowKit
set_option maxRecDepth 8000
/-- A turn as the document answers it, and where what it heard lies. -/
structure Aw where
  p : Int
  t : Tn
  a : Option Addr
  c : Nat
  h : List He
def awE : Enc Aw where
  k := 5
  enc y := [.int .i64 y.p, .int .i64 y.t.u, .bool y.t.ov, .bool y.t.fa, .slice y.a y.h.length y.c]
  len _ := rfl
  one x u hu := by
    simp only [List.mem_cons, List.not_mem_nil, or_false] at hu
    rcases hu with rfl | rfl | rfl | rfl | rfl <;> rfl
  pos := by decide
def Aw.ad (y : Aw) : Ad := ⟨⟨y.p, y.t⟩, y.h⟩
theorem Try.infoAw : (Try.prog.info? 92).map (fun i => (i.zero, i.size, i.bytes)) = some (some (.agg #[.int .i64 0, .int .i64 0, .bool false, .bool false, .slice none 0 0]), 5, 48) := by kernel_rfl
theorem frd_at (st : List Int) (DS : Nat → List De) {ps : List Int} {j : Nat} {p s : Int} (hp : ps[j]? = some p) (hs : st[p.toNat]? = some s) (L : List Lk) :
    frd st DS (ps.drop j) L = (⟨⟨p, (tnOf p s (DS p.toNat) L []).t⟩, (tnOf p s (DS p.toNat) L []).h⟩ :: (frd st DS (ps.drop (j + 1)) (tnOf p s (DS p.toNat) L []).L).1, (frd st DS (ps.drop (j + 1)) (tnOf p s (DS p.toNat) L []).L).2) := by
  obtain ⟨hj, e⟩ := List.getElem?_eq_some_iff.1 hp
  rw [List.drop_eq_getElem_cons hj, e]
  have e2 : st.getD p.toNat 0 = s := by rw [List.getD_eq_getElem?_getD, hs]; rfl
  show (⟨⟨p, (tnOf p (st.getD p.toNat 0) (DS p.toNat) L []).t⟩, (tnOf p (st.getD p.toNat 0) (DS p.toNat) L []).h⟩ :: (frd st DS (ps.drop (j + 1)) (tnOf p (st.getD p.toNat 0) (DS p.toNat) L []).L).1, (frd st DS (ps.drop (j + 1)) (tnOf p (st.getD p.toNat 0) (DS p.toNat) L []).L).2) = _
  rw [e2]
/-- While the turns of a minor frame are given: those that were are in Y, the links are L. -/
structure Rm (w0 : World) (d : Rq) (x : Xp) (w : World) (vo : Value) (Y : List Aw) (L : List Lk) : Prop where
  ex : Rx w d { x with L := L }
  own : ORow awE 92 w w0.heap.size vo Y
  hs : ∀ y ∈ Y, ORow heE 69 w w0.heap.size (.slice y.a y.h.length y.c) y.h
  go : But d.In w0 w
  lt : ∀ k, d.In k ∨ d.Row { x with L := L } k → k < w0.heap.size
section
variable {w0 w w' : World} {d : Rq} {x : Xp} {vo v : Value} {Y : List Aw} {L L' : List Lk} {y : Aw}
theorem Rm.after (h : Rm w0 d x w vo Y L) (a : After w w') : Rm w0 d x w' vo Y L :=
  ⟨h.ex.after a, own_after h.own a, fun y hy => own_after (h.hs y hy) a, h.go.then a (fun _ _ t => t.elim), h.lt⟩
/-- A turn went on. -/
theorem Rm.turn (h : Rm w0 d x w vo Y L) (ex : Rx w' d { x with L := L' }) (b : But d.In w w') (hl : L'.length = L.length) : Rm w0 d x w' vo Y L' :=
  ⟨ex, own_but h.own b (fun k hk s => by have := (h.own.lt k hk).1; have := h.lt k (.inl s); omega), fun y hy => own_but (h.hs y hy) b (fun k hk s => by have := ((h.hs y hy).lt k hk).1; have := h.lt k (.inl s); omega), h.go.then b (fun _ _ s => s), fun k hk => h.lt k (by
    unfold Rq.Row at hk ⊢
    dsimp only at hk ⊢
    rw [← hl]
    exact hk)⟩
/-- A turn is appended. -/
theorem Rm.app (h : Rm w0 d x w vo Y L) (hy : ORow heE 69 w w0.heap.size (.slice y.a y.h.length y.c) y.h) (h1 : ORow awE 92 w' w0.heap.size v (Y ++ [y])) (h2 : But (fun k => vo.ownBlock = some k) w w') : Rm w0 d x w' v (Y ++ [y]) L := by
  have far : ∀ k, k < w0.heap.size → ¬ vo.ownBlock = some k := fun k hk e => by have := (h.own.lt k e).1; omega
  have fh : ∀ {u : Value} {xs : List He}, ORow heE 69 w w0.heap.size u xs → ∀ k, u.ownBlock = some k → ¬ vo.ownBlock = some k := fun hu k hk e => own_apart h.own hu (by decide) hk e
  refine ⟨h.ex.but h2 (fun k hk => far k (h.lt k (.inl hk))) (fun k hk => far k (h.lt k (.inr hk))), h1, fun z hz => ?_, h.go.then h2 (fun k hk e => (far k hk e).elim), h.lt⟩
  rcases List.mem_append.1 hz with hz | hz
  · exact own_but (h.hs z hz) h2 (fh (h.hs z hz))
  · obtain rfl := List.mem_singleton.1 hz
    exact own_but hy h2 (fh hy)
end
/-- The call, the literal, the append, and what they come to is assigned; v0: what lies in the assigned slot ahead of that. -/
structure ChX (c b a z l : Nat) (v0 : Value) (P0 : World → Prop) (P1 P2 P3 : Value → World → Prop) (L : Nat → Bool) (u : Nat → Value) (w : World) : Prop where
  ch : ChW c b a 99 l P0 P1 P2 P3 (fun _ => True) L u w
  no : L 99 = false
  q1 : L z = true → L a = true
  q2 : L z = true → u z = u a
  q0 : L z = false → u z = v0
section
variable {c b a z l : Nat} {v0 : Value} {P0 : World → Prop} {P1 P2 P3 : Value → World → Prop} {L : Nat → Bool} {u : Nat → Value} {w w' : World}
theorem ChX.start (h : P0 w) (hz : u z = v0) : ChX c b a z l v0 P0 P1 P2 P3 (fun _ => false) u w := ⟨ChW.start h, rfl, fun h => (by cases h), fun h => (by cases h), fun _ => hz⟩
theorem ChX.keep {T : Tab} {k : Nat} {v : Value} (h1 : c ≠ k) (h2 : b ≠ k) (h3 : a ≠ k) (h4 : 99 ≠ k) (h5 : z ≠ k) (d1 : T.D c ≠ T.D k) (d2 : T.D b ≠ T.D k) (d3 : T.D a ≠ T.D k) (d4 : T.D z ≠ T.D k) (L : Nat → Bool) (u : Nat → Value) (w : World) (x : ChX c b a z l v0 P0 P1 P2 P3 L u w) : ChX c b a z l v0 P0 P1 P2 P3 (more L k) (T.set k v u) w :=
  ⟨ChW.keep h1 h2 h3 h4 d1 d2 d3 L u w x.ch, (by rw [more_ne L h4]; exact x.no), (by rw [more_ne L h5, more_ne L h3]; exact x.q1), by
    rw [more_ne L h5, show T.set k v u z = u z from if_neg d4, show T.set k v u a = u a from if_neg d3]; exact x.q2, by
    rw [more_ne L h5, show T.set k v u z = u z from if_neg d4]; exact x.q0⟩
theorem ChX.rest {T : Tab} {k : Nat} {v : Value} (h4 : 99 ≠ k) (h5 : z ≠ k) (d4 : T.D z ≠ T.D k) (x : ChX c b a z l v0 P0 P1 P2 P3 L u w) (hz : L z = false) (y : ChW c b a 99 l P0 P1 P2 P3 (fun _ => True) (more L k) (T.set k v u) w') : ChX c b a z l v0 P0 P1 P2 P3 (more L k) (T.set k v u) w' :=
  ⟨y, (by rw [more_ne L h4]; exact x.no), (by rw [more_ne L h5, hz]; intro h; cases h), (by rw [more_ne L h5, hz]; intro h; cases h), by
    rw [show T.set k v u z = u z from if_neg d4]
    intro _
    exact x.q0 hz⟩
theorem ChX.call {T : Tab} {v : Value} (h2 : b ≠ c) (h3 : a ≠ c) (h4 : 99 ≠ c) (h5 : z ≠ c) (d4 : T.D z ≠ T.D c) (x : ChX c b a z l v0 P0 P1 P2 P3 L u w) (h : L c = false) (p : P1 v w') : ChX c b a z l v0 P0 P1 P2 P3 (more L c) (T.set c v u) w' :=
  x.rest h4 h5 d4 (fls x.q1 (fls x.ch.i2 (fls x.ch.i1 h))) (ChW.call h2 h3 h4 x.ch h p)
theorem ChX.lit {T : Tab} {v : Value} (h1 : c ≠ b) (h3 : a ≠ b) (h4 : 99 ≠ b) (h5 : z ≠ b) (d4 : T.D z ≠ T.D b) (x : ChX c b a z l v0 P0 P1 P2 P3 L u w) (hc : L c = true) (h : L b = false) (p : P2 v w') : ChX c b a z l v0 P0 P1 P2 P3 (more L b) (T.set b v u) w' :=
  x.rest h4 h5 d4 (fls x.q1 (fls x.ch.i2 h)) (ChW.lit h1 h3 h4 x.ch hc h p)
theorem ChX.app {T : Tab} {v : Value} (h1 : c ≠ a) (h2 : b ≠ a) (h4 : 99 ≠ a) (h5 : z ≠ a) (d4 : T.D z ≠ T.D a) (x : ChX c b a z l v0 P0 P1 P2 P3 L u w) (hb : L b = true) (hl : L l = true) (h : L a = false) (p : P3 v w') : ChX c b a z l v0 P0 P1 P2 P3 (more L a) (T.set a v u) w' :=
  x.rest h4 h5 d4 (fls x.q1 h) (ChW.app h1 h2 h4 x.ch hb hl h p)
theorem ChX.last {T : Tab} {v : Value} (h1 : c ≠ z) (h2 : b ≠ z) (h3 : a ≠ z) (h4 : 99 ≠ z) (d1 : T.D c ≠ T.D z) (d2 : T.D b ≠ T.D z) (d3 : T.D a ≠ T.D z) (x : ChX c b a z l v0 P0 P1 P2 P3 L u w) (ha : L a = true) (hv : v = u a) : ChX c b a z l v0 P0 P1 P2 P3 (more L z) (T.set z v u) w :=
  ⟨ChW.keep h1 h2 h3 h4 d1 d2 d3 L u w x.ch, (by rw [more_ne L h4]; exact x.no), (by rw [more_ne L h3]; intro _; exact ha), (by
    intro _
    rw [show T.set z v u a = u a from if_neg d3, show T.set z v u z = v from if_pos rfl]; exact hv), by
    rw [more_self]; intro h; cases h⟩
/-- In any phase. -/
theorem ChX.any {R : Prop} (x : ChX c b a z l v0 P0 P1 P2 P3 L u w) (h0 : P0 w → R) (h1 : ∀ v, P1 v w → R) (h2 : ∀ v, P2 v w → R) (h3 : ∀ v, P3 v w → R) : R := by
  rcases hc : L c with _ | _
  · exact h0 (x.ch.p0 hc)
  rcases hb : L b with _ | _
  · exact h1 _ (x.ch.p1 hc hb)
  rcases ha : L a with _ | _
  · exact h2 _ (x.ch.p2 hb ha)
  · exact h3 _ (x.ch.p3 ha x.no)
end
abbrev ChG (c b a z l : Nat) (w0 : World) (d : Rq) (x : Xp) (vo : Value) (Y : List Aw) (L0 : List Lk) (p : Int) (R : Ru) : (Nat → Bool) → (Nat → Value) → World → Prop :=
  ChX c b a z l vo (fun w => Rm w0 d x w vo Y L0) (fun v w => ∃ vh, v = .agg (turC p R.t vh) ∧ Rm w0 d x w vo Y R.L ∧ ORow heE 69 w w0.heap.size vh R.h)
    (fun v w => ∃ (q : Nat) (y : Aw), v = .slice (some ⟨q, 0, none⟩) 1 1 ∧ y.ad = ⟨⟨p, R.t⟩, R.h⟩ ∧ w.heap[q]? = some (.cells (awE.enc y).toArray 92 (0, 0)) ∧ Rm w0 d x w vo Y R.L ∧ ORow heE 69 w w0.heap.size (.slice y.a y.h.length y.c) y.h)
    (fun v w => ∃ y : Aw, y.ad = ⟨⟨p, R.t⟩, R.h⟩ ∧ Rm w0 d x w v (Y ++ [y]) R.L)
theorem chg_go {c b a z l : Nat} {w0 : World} {d : Rq} {x : Xp} {vo : Value} {Y : List Aw} {L0 : List Lk} {p : Int} {R : Ru} {L : Nat → Bool} {u : Nat → Value} {w : World} (h : ChG c b a z l w0 d x vo Y L0 p R L u w) : But d.In w0 w :=
  ChX.any h (fun h => h.go) (fun _ ⟨_, _, h, _⟩ => h.go) (fun _ ⟨_, _, _, _, _, h, _⟩ => h.go) (fun _ ⟨_, _, h⟩ => h.go)
theorem indexIn (w : World) (b off n c : Nat) {k : Int} {i : Nat} (hi : k = (i : Int)) (hk : k < (n : Int)) : (Instr.indexAt 23 (.slice (some ⟨b, off, none⟩) n c) (.int .i64 k)).run Try.prog w = .ok (.pointer (some ⟨b, off + i, none⟩)) w := by
  subst hi
  have h : i < n := by omega
  simp [go_sem, Instr.indexAt, h]
theorem indexDl (w : World) (b off n c : Nat) {k : Int} {i : Nat} (hi : k = (i : Int)) (hk : k < (n : Int)) : (Instr.indexAt 36 (.slice (some ⟨b, off, none⟩) n c) (.int .i64 k)).run Try.prog w = .ok (.pointer (some ⟨b, off + i, none⟩)) w := by
  subst hi
  have h : i < n := by omega
  simp [go_sem, Instr.indexAt, h]
theorem loadDl {w : World} {b off n c : Nat} {a : Option Addr} (h0 : w.cell? ⟨b, off, none⟩ = some (.slice a n c)) : (Instr.loadAt 54 (.pointer (some ⟨b, off, none⟩))).run Try.prog w = .ok (.slice a n c) w := by
  simp [go_sem, h0]
theorem run_bsTu (y : Aw) (w : World) : (Instr.buildSlice 87 1 #[(0, .agg (turC y.p y.t (.slice y.a y.h.length y.c)))]).run Try.prog w = .ok (.slice (some ⟨w.heap.size, 0, none⟩) 1 1) (w.alloc (.cells (awE.enc y).toArray 92)) := by
  simp [go_sem, awE]
end Go.Proofs.Ytkjjjibglaffnaa
