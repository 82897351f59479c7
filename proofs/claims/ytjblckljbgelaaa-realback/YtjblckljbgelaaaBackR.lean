/-
  What the walk of RealBack wants of a statement whose order is open: its operations one by one, and the cells that stay as they are.
-/
import Derived.Test.YtjblckljbgelaaaBackP
import Derived.Test.YtjblckljbgelaaaWorks
import Derived.Test.YtjblckljbgelaaaTells
namespace Go.Proofs.Ytjblckljbgelaaa
open Go.RowKit
attribute [local go_sem ↓] Go.wp_at_zero Go.wp_at_succ
section
variable {P : Program} {ops : Array Oper} {Q : Exit → Act → World → Prop} {md : Region.Mode} {S : World → Prop}
/-- An operation that may come up is taken first: it is wanted, and yields v in every world that meets S. -/
theorem takeD {i : Nat} {oi : Oper} {v : Value} {d : Option Nat} {fuel : Nat} {listed : Array Bool} {a : Act} {w : World} (hi : ops[i]? = some oi) (hd : oi.dst = d)
    (hs : Region.noSelect ops = true) (hf : Region.free md ops listed i = true) (hr : (Region.ready md ops listed).contains i = true)
    (hQ : ∀ c a w, Q (.panic c) (a.put d v) w → Q (.panic c) a w) (hw : Region.wanted oi (yielded ops a.tmps) = true) (hS : S w) (hy : ∀ w, S w → (execOp a.eval oi).run P w = .ok (.value v) w)
    (h : wpAnyH P md ops Q S fuel (listed.setIfInBounds i true) (a.put d v) w) : wpAnyH P md ops Q S (fuel + 1) listed a w := by
  subst hd
  exact wpAnyH_take hi hs hf hr hQ (Or.inl ⟨hw, hy⟩) hS h
/-- An operation that is not wanted is passed over. -/
theorem skipD {i : Nat} {oi : Oper} {d : Option Nat} {fuel : Nat} {listed : Array Bool} {a : Act} {w : World} (hi : ops[i]? = some oi) (hd : oi.dst = d)
    (hs : Region.noSelect ops = true) (hf : Region.free md ops listed i = true) (hr : (Region.ready md ops listed).contains i = true)
    (hQ : ∀ c a w, Q (.panic c) (a.put d undef) w → Q (.panic c) a w) (hw : Region.wanted oi (yielded ops a.tmps) = false) (hS : S w)
    (h : wpAnyH P md ops Q S fuel (listed.setIfInBounds i true) (a.put d undef) w) : wpAnyH P md ops Q S (fuel + 1) listed a w := by
  subst hd
  exact wpAnyH_take hi hs hf hr hQ (Or.inr ⟨hw, rfl⟩) hS h
end
theorem keep9 {w W w1 : World} (h : After W w1) {p q r : Nat} {x0 x1 x2 y0 y1 y2 z0 z1 z2 : Value} (hc : W.cell? ⟨p, 0, none⟩ = some x0 ∧ W.cell? ⟨p, 1, none⟩ = some x1 ∧ W.cell? ⟨p, 2, none⟩ = some x2 ∧ W.cell? ⟨q, 0, none⟩ = some y0 ∧ W.cell? ⟨q, 1, none⟩ = some y1 ∧ W.cell? ⟨q, 2, none⟩ = some y2 ∧ W.cell? ⟨r, 0, none⟩ = some z0 ∧ W.cell? ⟨r, 1, none⟩ = some z1 ∧ W.cell? ⟨r, 2, none⟩ = some z2 ∧ After w W) :
    w1.cell? ⟨p, 0, none⟩ = some x0 ∧ w1.cell? ⟨p, 1, none⟩ = some x1 ∧ w1.cell? ⟨p, 2, none⟩ = some x2 ∧ w1.cell? ⟨q, 0, none⟩ = some y0 ∧ w1.cell? ⟨q, 1, none⟩ = some y1 ∧ w1.cell? ⟨q, 2, none⟩ = some y2 ∧ w1.cell? ⟨r, 0, none⟩ = some z0 ∧ w1.cell? ⟨r, 1, none⟩ = some z1 ∧ w1.cell? ⟨r, 2, none⟩ = some z2 ∧ After w w1 := by
  obtain ⟨c1, c2, c3, c4, c5, c6, c7, c8, c9, c10⟩ := hc
  exact ⟨h.keep c1, h.keep c2, h.keep c3, h.keep c4, h.keep c5, h.keep c6, h.keep c7, h.keep c8, h.keep c9, c10.trans h⟩
theorem after_drew {W : World} : After W W.drew := After.rfl.draws 1
theorem draws_any {W W1 : World} (h1 : W1.heap = W.heap) (h2 : W1.os = W.os) (h3 : W1.tape = W.tape) (h4 : W1.output = W.output) : After W W1 := ⟨h2, h3, h4, by rw [h1]; exact Nat.le_refl _, fun k _ => by rw [h1]⟩
/-- The cells of two blocks that were just made, and of one that was there. -/
theorem cells9 {w W : World} {x0 x1 x2 y0 y1 y2 z0 z1 z2 : Value} {r : Nat} (hw : After w W) (h0 : W.cell? ⟨r, 0, none⟩ = some z0) (h1 : W.cell? ⟨r, 1, none⟩ = some z1) (h2 : W.cell? ⟨r, 2, none⟩ = some z2) {W' : World} (h : After ((W.alloc (.cells #[x0, x1, x2] 25)).alloc (.cells #[y0, y1, y2] 25)) W') :
    W'.cell? ⟨W.heap.size, 0, none⟩ = some x0 ∧ W'.cell? ⟨W.heap.size, 1, none⟩ = some x1 ∧ W'.cell? ⟨W.heap.size, 2, none⟩ = some x2 ∧ W'.cell? ⟨W.heap.size + 1, 0, none⟩ = some y0 ∧ W'.cell? ⟨W.heap.size + 1, 1, none⟩ = some y1 ∧ W'.cell? ⟨W.heap.size + 1, 2, none⟩ = some y2 ∧ W'.cell? ⟨r, 0, none⟩ = some z0 ∧ W'.cell? ⟨r, 1, none⟩ = some z1 ∧ W'.cell? ⟨r, 2, none⟩ = some z2 ∧ After w W' := by
  have hA : After W ((W.alloc (.cells #[x0, x1, x2] 25)).alloc (.cells #[y0, y1, y2] 25)) := (After.rfl.alloc _).alloc _
  refine ⟨h.keep ?_, h.keep ?_, h.keep ?_, h.keep ?_, h.keep ?_, h.keep ?_, h.keep (hA.keep h0), h.keep (hA.keep h1), h.keep (hA.keep h2), (hw.trans hA).trans h⟩
  · simp
  · simp
  · simp
  · simp
  · simp
  · simp
end Go.Proofs.Ytjblckljbgelaaa
