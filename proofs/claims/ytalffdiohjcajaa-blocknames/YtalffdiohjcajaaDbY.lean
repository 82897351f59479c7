/-
  One call of both devices: what holds between its parts; the ways that are walked plainly: Flush, Crash, Read.
-/
import Derived.Test.YtalffdiohjcajaaDbX
namespace Go.Proofs.Ytalffdiohjcajaa.Ig
open Go.RowKit
set_option maxRecDepth 8000
/-- Bytes in a block, whatever they are. -/
def BzAt (w : World) (q n : Nat) : Prop := ∃ (cs : Array Value) (T : TypeId), w.heap[q]? = some (.cells cs T (0, 0)) ∧ ∀ i, i < n → ∃ z, cs[i]? = some (.int .u8 z)
theorem BzAt.lt {w : World} {q n : Nat} (h : BzAt w q n) : q < w.heap.size := by
  obtain ⟨cs, T, h, _⟩ := h
  exact blk_lt h
theorem BzAt.but {S : Nat → Prop} {w w' : World} {q n : Nat} (h : BzAt w q n) (b : But S w w') (hn : ¬ S q) : BzAt w' q n := by
  obtain ⟨cs, T, h, r⟩ := h
  exact ⟨cs, T, (b.block q (blk_lt h) hn).trans h, r⟩
theorem BzAt.cell {w : World} {q n : Nat} (h : BzAt w q n) {i : Nat} (hi : i < n) : ∃ z, w.cell? ⟨q, i, none⟩ = some (.int .u8 z) ∧ w.frozen? ⟨q, i, none⟩ = false := by
  obtain ⟨cs, T, h, h2⟩ := h
  obtain ⟨z, hz⟩ := h2 i hi
  exact ⟨z, blk_cell h hz, blk_soft h i⟩
theorem BzAt.put {w : World} {q n : Nat} (h : BzAt w q n) (i : Nat) (v : Int) : BzAt (w.setCell ⟨q, i, none⟩ (.int .u8 v)) q n := by
  obtain ⟨cs, T, h, h2⟩ := h
  refine ⟨_, T, blk_put h i _, fun k hk => ?_⟩
  obtain ⟨z, hz⟩ := h2 k hk
  by_cases e : k = i
  · subst e
    exact ⟨v, set_at ((Array.getElem?_eq_some_iff.1 hz).1) _⟩
  · exact ⟨z, by rw [set_off (fun h => e h.symm)]; exact hz⟩
theorem bz_sec {w : World} {q : Nat} {b : List Int} (h : SecAt w q b) (hb : b.length = 64) : BzAt w q 64 :=
  ⟨_, _, h, fun i hi => ⟨b.getD i 0, by
    have hi' : i < b.length := by omega
    simp [u8s, hi']⟩⟩
theorem bz_own {w : World} {B q n c : Nat} {zs : List Int} (h : w.ownsRow B 5 1 (.slice (some ⟨q, 0, none⟩) n c) n (u8s zs)) (hz : zs.length = n) : BzAt w q n := by
  rcases h.2 with ⟨e, _⟩ | ⟨g, cap, cur, e, h2, h3, h4, h5⟩
  · cases e
  · cases e
    refine ⟨cur, _, h3, fun i hi => ⟨zs.getD i 0, ?_⟩⟩
    have h6 := h.cellAt i (by omega)
    have h7 : w.cell? ⟨q, i, none⟩ = cur[i]? := by simp [World.cell?, h3]
    rw [h7] at h6
    rw [h6]
    have hi' : i < zs.length := by omega
    simp [u8s, hi']
/-- What is handed in to a call: choices that lie apart. -/
structure Din (W : World) (T : Nat → Prop) (x : Dox) (ch : List Int) : Prop where
  k0 : -9223372036854775808 ≤ x.k
  k1 : x.k ≤ 9223372036854775807
  i0 : -9223372036854775808 ≤ x.i
  i1 : x.i ≤ 9223372036854775807
  v0 : -9223372036854775808 ≤ x.v
  v1 : x.v ≤ 9223372036854775807
  row : IRow W x.a x.n ch
  nil : x.a = none → x.n = 0 ∧ x.c = 0
  le : x.n ≤ x.c
  big : x.n ≤ 17592186044416
  bd : ∀ z ∈ ch, -9223372036854775808 ≤ z ∧ z ≤ 9223372036854775807
  off : ∀ y, x.a = some y → 0 < x.n → ¬ T y.block
theorem Din.after {W W' : World} {T : Nat → Prop} {x : Dox} {ch : List Int} (h : Din W T x ch) (a : After W W') : Din W' T x ch := { h with row := h.row.after a }
/-- What is done of a call: the device behind it. -/
def doS (y : Dv) (x : Dox) (ch : List Int) (K : Nat) : Dv := if K = 0 then y else if K = 1 then y.writeS x.i (byt x.v (bytN x.s)) else if K = 2 then y.flushS else if K = 3 then y.armS x.i else if K = 4 then y.die else y.boot ch
theorem doB {W : World} {b : Nat} {x : Dox} (h : W.heap[b]? = some (.cells x.cs 34 (0, 0))) : W.cell? ⟨b, 0, none⟩ = some (.int .i64 x.k) ∧ W.cell? ⟨b, 1, none⟩ = some (.int .i64 x.i) ∧ W.cell? ⟨b, 2, none⟩ = some (.int .i64 x.v) ∧ W.cell? ⟨b, 3, none⟩ = some (.int .i64 x.s) ∧ W.cell? ⟨b, 4, none⟩ = some (.slice x.a x.n x.c) :=
  ⟨blk_cell h (i := 0) rfl, blk_cell h (i := 1) rfl, blk_cell h (i := 2) rfl, blk_cell h (i := 3) rfl, blk_cell h (i := 4) rfl⟩
/-- Both devices, whatever they are, and a call's box. -/
structure Ws (w0 : World) (S : Nat → Prop) (d g m : Nat) (p : Pl) (b5 : Nat) (x : Dox) (yd yr : Dv) (W : World) : Prop where
  dv : DvX W d g m yd
  rv : RvX W S p yr
  aft : After w0 W
  box : W.heap[b5]? = some (.cells x.cs 34 (0, 0))
section
variable {w0 W W' : World} {S T : Nat → Prop} {d g m b5 : Nat} {p : Pl} {x : Dox} {yd yr y' : Dv}
theorem Ws.after (h : Ws w0 S d g m p b5 x yd yr W) (a : After W W') : Ws w0 S d g m p b5 x yd yr W' := ⟨h.dv.after a, h.rv.after a, h.aft.trans a, After.at a h.box⟩
/-- The program's device went on. -/
theorem Ws.stepD (h : Ws w0 S d g m p b5 x yd yr W) (hd : DvX W' d g m y') (b : But (InD d g m) W W') (hS : ∀ k, InD d g m k → S k) (dis : ∀ k, InD d g m k → ¬ p.In k) (nw : ∀ k, InD d g m k → w0.heap.size ≤ k) (hb : ¬ InD d g m b5) : Ws w0 S d g m p b5 x y' yr W' :=
  ⟨hd, h.rv.but b (fun k hk e => dis k e hk) (fun k _ e => hS k e), h.aft.then b (fun k hk e => by have := nw k e; omega), (b.block b5 (blk_lt h.box) hb).trans h.box⟩
/-- Bytes that are nobody's are written over. -/
theorem Ws.stepQ (h : Ws w0 S d g m p b5 x yd yr W) {q i : Nat} {v : Value} (h1 : ¬ InD d g m q) (h2 : ¬ p.In q) (hS : S q) (h0 : w0.heap.size ≤ q) (hb : b5 ≠ q) : Ws w0 S d g m p b5 x yd yr (W.setCell ⟨q, i, none⟩ v) := by
  have b := but_one W q i v
  exact ⟨h.dv.but b (fun k hk e => h1 (by rw [← (show k = q from e)]; exact hk)), h.rv.but b (fun k hk e => h2 (by rw [← (show k = q from e)]; exact hk)) (fun k _ e => by rw [show k = q from e]; exact hS), h.aft.set ⟨q, i, none⟩ h0 v, (b.block b5 (blk_lt h.box) hb).trans h.box⟩
/-- The document's device went on. -/
theorem Ws.stepR (h : Ws w0 S d g m p b5 x yd yr W) (hr : RvX W' S p y') (b : But p.In W W') (dis : ∀ k, InD d g m k → ¬ p.In k) (nw : ∀ k, p.In k → w0.heap.size ≤ k) (hb : ¬ p.In b5) : Ws w0 S d g m p b5 x yd y' W' :=
  ⟨h.dv.but b (fun k hk e => dis k hk e), hr, h.aft.then b (fun k hk e => by have := nw k e; omega), (b.block b5 (blk_lt h.box) hb).trans h.box⟩
end
theorem loadDo {W : World} {b : Nat} {x : Dox} (h : W.heap[b]? = some (.cells x.cs 34 (0, 0))) : (Instr.loadAt 34 (Ptr b)).run Try.prog W = .ok x.val W := by
  obtain ⟨h0, h1, h2, h3, h4⟩ := doB h
  simp [go_sem, h0, h1, h2, h3, h4]
theorem fieldDo (w : World) (b i : Nat) (hi : i < 5) : (Instr.fieldAt 34 (Ptr b) i).run Try.prog w = .ok (.pointer (some ⟨b, i, none⟩)) w := by
  rcases (by omega : i = 0 ∨ i = 1 ∨ i = 2 ∨ i = 3 ∨ i = 4) with rfl | rfl | rfl | rfl | rfl <;> simp [go_sem]
theorem loadInt {w : World} {a : Addr} {z : Int} (h : w.cell? a = some (.int .i64 z)) : (Instr.loadAt 3 (.pointer (some a))).run Try.prog w = .ok (.int .i64 z) w := by
  simp [go_sem, h]
theorem loadInts {w : World} {a : Addr} {v : Value} (h : w.cell? a = some v) : (Instr.loadAt 32 (.pointer (some a))).run Try.prog w = .ok v w := by
  simp [go_sem, h]
end Go.Proofs.Ytalffdiohjcajaa.Ig
