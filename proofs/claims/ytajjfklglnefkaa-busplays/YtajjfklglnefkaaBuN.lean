/-
  Both buses side by side; step.
-/
import Derived.Test.YtajjfklglnefkaaBuL
import Derived.Test.YtajjfklglnefkaaPhaseO
namespace Go.Proofs.Ytajjfklglnefkaa
open Go.RowKit
set_option maxRecDepth 8000
/-- The program's bus at p and the document's at g, both made behind w0, apart from one another and from a block q and a value's row. -/
structure Pr (w0 W : World) (p g q : Nat) (ob : Obj) (b b' : Bz) (v : Value) (zs : List Int) : Prop where
  aft : After w0 W
  at0 : W.heap[q]? = some ob
  row : OInts W 0 v zs
  two : ∃ o o', Bu W p o b ∧ Rb W g o' b' ∧ (∀ k, o k ≠ 0 → w0.heap.size ≤ k) ∧ (∀ k, o' k ≠ 0 → w0.heap.size ≤ k) ∧ (∀ k, o k ≠ 0 → o' k = 0) ∧ o q = 0 ∧ o' q = 0 ∧ (∀ k, v.ownBlock = some k → o k = 0 ∧ o' k = 0)
abbrev nov : Value := .slice none 0 0
theorem Pr.after {w0 W W' : World} {p g q : Nat} {ob : Obj} {b b' : Bz} {v : Value} {zs : List Int} (h : Pr w0 W p g q ob b b' v zs) (a : After W W') : Pr w0 W' p g q ob b b' v zs := by
  obtain ⟨o, o', x, y, r⟩ := h.two
  exact ⟨h.aft.trans a, (a.block q (blk_lt h.at0) (fun t => t)).trans h.at0, own_after h.row a, o, o', x.after a, y.after a, r⟩
/-- Beside another block, that is none of theirs: a new one. -/
theorem Pr.beside {w0 W : World} {p g q : Nat} {ob : Obj} {b b' : Bz} {v : Value} {zs : List Int} (h : Pr w0 W p g q ob b b' v zs) (cs : Array Value) (T : TypeId) : Pr w0 (W.alloc (.cells cs T)) p g W.heap.size (.cells cs T (0, 0)) b b' nov [] := by
  obtain ⟨o, o', x, y, h1, h2, h3, _, _, _⟩ := h.two
  have a := (After.rfl (w := W)).alloc (.cells cs T)
  refine ⟨h.aft.trans a, heap_alloc_new W _, own_nil _ _, o, o', x.after a, y.after a, h1, h2, h3, ?_, ?_, fun k hk => by cases hk⟩
  · rcases Nat.eq_zero_or_pos (o W.heap.size) with e | e
    · exact e
    · have := x.bnd W.heap.size (by omega); omega
  · rcases Nat.eq_zero_or_pos (o' W.heap.size) with e | e
    · exact e
    · have := y.bnd W.heap.size (by omega); omega
theorem Pr.left {w0 W W' : World} {p g q : Nat} {ob : Obj} {b b' b2 : Bz} {v : Value} {zs : List Int} (aft : After w0 W) (at0 : W.heap[q]? = some ob) (row : OInts W 0 v zs) {o o' o2 : Nat → Nat} (_x : Bu W p o b) (y : Rb W g o' b') (h1 : ∀ k, o k ≠ 0 → w0.heap.size ≤ k) (h2 : ∀ k, o' k ≠ 0 → w0.heap.size ≤ k) (h3 : ∀ k, o k ≠ 0 → o' k = 0) (h4 : o q = 0) (h5 : o' q = 0) (h6 : ∀ k, v.ownBlock = some k → o k = 0 ∧ o' k = 0)
    (x2 : Bu W' p o2 b2) (go : Goes W W' o o2) : Pr w0 W' p g q ob b2 b' v zs := by
  have e : ∀ k, o' k ≠ 0 → o k = 0 := fun k hk => by
    rcases Nat.eq_zero_or_pos (o k) with e | e
    · exact e
    · exact absurd (h3 k (by omega)) hk
  refine ⟨aft.then go.but (fun k hk t => by have := h1 k t; omega), (go.but.block q (blk_lt at0) (fun t => t h4)).trans at0, own_but row go.but (fun k hk t => t (h6 k hk).1), o2, o', x2, y.but go.but (fun k hk t => t (e k hk)), go.new aft.size h1, h2, fun k hk => ?_, (go.ext q (blk_lt at0)).trans h4, h5, fun k hk => ⟨(go.ext k (own_lt row hk).2).trans (h6 k hk).1, (h6 k hk).2⟩⟩
  rcases Nat.lt_or_ge k W.heap.size with hl | hl
  · rw [go.ext k hl] at hk; exact h3 k hk
  · rcases Nat.eq_zero_or_pos (o' k) with e | e
    · exact e
    · have := y.bnd k (by omega); omega
theorem Pr.right {w0 W W' : World} {p g q : Nat} {ob : Obj} {b b' b2 : Bz} {v : Value} {zs : List Int} (aft : After w0 W) (at0 : W.heap[q]? = some ob) (row : OInts W 0 v zs) {o o' o2 : Nat → Nat} (x : Bu W p o b) (_y : Rb W g o' b') (h1 : ∀ k, o k ≠ 0 → w0.heap.size ≤ k) (h2 : ∀ k, o' k ≠ 0 → w0.heap.size ≤ k) (h3 : ∀ k, o k ≠ 0 → o' k = 0) (h4 : o q = 0) (h5 : o' q = 0) (h6 : ∀ k, v.ownBlock = some k → o k = 0 ∧ o' k = 0)
    (y2 : Rb W' g o2 b2) (go : Goes W W' o' o2) : Pr w0 W' p g q ob b b2 v zs := by
  refine ⟨aft.then go.but (fun k hk t => by have := h2 k t; omega), (go.but.block q (blk_lt at0) (fun t => t h5)).trans at0, own_but row go.but (fun k hk t => t (h6 k hk).2), o, o2, x.but go.but (fun k hk t => t (h3 k hk)), y2, h1, go.new aft.size h2, fun k hk => ?_, h4, (go.ext q (blk_lt at0)).trans h5, fun k hk => ⟨(h6 k hk).1, (go.ext k (own_lt row hk).2).trans (h6 k hk).2⟩⟩
  exact (go.ext k (x.bnd k hk)).trans (h3 k hk)
section
variable {w0 W : World} {p g q : Nat} {ob : Obj} {b b' : Bz} {v : Value} {zs : List Int}
theorem Pr.join1 (h : Pr w0 W p g q ob b b' v zs) (t : Int) : Calls Try.prog 11 #[Ptr p, .int .i64 t] W fun e w' => e = .returned (.tuple #[.int .i64 (b.joinA t).1, .int .i64 (b.joinA t).2]) ∧ Pr w0 w' p g q ob (b.joinS t) b' v zs := by
  obtain ⟨o, o', x, y, h1, h2, h3, h4, h5, h6⟩ := h.two
  exact (buJoin x t).mono (fun e w' ⟨e1, o2, x2, go⟩ => ⟨e1, Pr.left h.aft h.at0 h.row x y h1 h2 h3 h4 h5 h6 x2 go⟩)
theorem Pr.join2 (h : Pr w0 W p g q ob b b' v zs) (t : Int) : Calls Try.prog 19 #[Ptr g, .int .i64 t] W fun e w' => e = .returned (.tuple #[.int .i64 (b'.joinA t).1, .int .i64 (b'.joinA t).2]) ∧ Pr w0 w' p g q ob b (b'.joinS t) v zs := by
  obtain ⟨o, o', x, y, h1, h2, h3, h4, h5, h6⟩ := h.two
  exact (rbJoin y t).mono (fun e w' ⟨e1, o2, x2, go⟩ => ⟨e1, Pr.right h.aft h.at0 h.row x y h1 h2 h3 h4 h5 h6 x2 go⟩)
theorem Pr.tell1 (h : Pr w0 W p g q ob b b' v zs) (hu : b.Upto 999999) (t u : Int) : Calls Try.prog 12 #[Ptr p, .int .i64 t, .int .i64 u] W fun e w' => e = .returned (.tuple #[.int .i64 (b.tellA t).1, .int .i64 (b.tellA t).2]) ∧ Pr w0 w' p g q ob (b.tellS t u) b' v zs := by
  obtain ⟨o, o', x, y, h1, h2, h3, h4, h5, h6⟩ := h.two
  exact (buTell x hu t u).mono (fun e w' ⟨e1, o2, x2, go⟩ => ⟨e1, Pr.left h.aft h.at0 h.row x y h1 h2 h3 h4 h5 h6 x2 go⟩)
theorem Pr.tell2 (h : Pr w0 W p g q ob b b' v zs) (hu : b'.Upto 999999) (t u : Int) : Calls Try.prog 20 #[Ptr g, .int .i64 t, .int .i64 u] W fun e w' => e = .returned (.tuple #[.int .i64 (b'.tellA t).1, .int .i64 (b'.tellA t).2]) ∧ Pr w0 w' p g q ob b (b'.tellS t u) v zs := by
  obtain ⟨o, o', x, y, h1, h2, h3, h4, h5, h6⟩ := h.two
  exact (rbTell y hu t u).mono (fun e w' ⟨e1, o2, x2, go⟩ => ⟨e1, Pr.right h.aft h.at0 h.row x y h1 h2 h3 h4 h5 h6 x2 go⟩)
theorem Pr.free1 (h : Pr w0 W p g q ob b b' v zs) (i : Int) {t : Int} (ht : t ≤ 9223372036854775807) : Calls Try.prog 16 #[Ptr p, .int .i64 i, .int .i64 t] W fun e w' => e = .returned (.int .i64 (b.freeA i t)) ∧ Pr w0 w' p g q ob (b.freeS i t) b' v zs := by
  obtain ⟨o, o', x, y, h1, h2, h3, h4, h5, h6⟩ := h.two
  exact (buFree x i ht).mono (fun e w' ⟨e1, o2, x2, go⟩ => ⟨e1, Pr.left h.aft h.at0 h.row x y h1 h2 h3 h4 h5 h6 x2 go⟩)
theorem Pr.free2 (h : Pr w0 W p g q ob b b' v zs) (i : Int) {t : Int} (ht : t ≤ 9223372036854775807) : Calls Try.prog 22 #[Ptr g, .int .i64 i, .int .i64 t] W fun e w' => e = .returned (.int .i64 (b'.freeA i t)) ∧ Pr w0 w' p g q ob b (b'.freeS i t) v zs := by
  obtain ⟨o, o', x, y, h1, h2, h3, h4, h5, h6⟩ := h.two
  exact (rbFree y i ht).mono (fun e w' ⟨e1, o2, x2, go⟩ => ⟨e1, Pr.right h.aft h.at0 h.row x y h1 h2 h3 h4 h5 h6 x2 go⟩)
theorem Pr.set1 (h : Pr w0 W p g q ob b b' v zs) (i : Int) : Calls Try.prog 17 #[Ptr p, .int .i64 i] W fun e w' => e = .returned (.int .i64 (b.setA i)) ∧ Pr w0 w' p g q ob (b.setS i) b' v zs := by
  obtain ⟨o, o', x, y, h1, h2, h3, h4, h5, h6⟩ := h.two
  exact (buSet x i).mono (fun e w' ⟨e1, o2, x2, go⟩ => ⟨e1, Pr.left h.aft h.at0 h.row x y h1 h2 h3 h4 h5 h6 x2 go⟩)
theorem Pr.set2 (h : Pr w0 W p g q ob b b' v zs) (i : Int) : Calls Try.prog 23 #[Ptr g, .int .i64 i] W fun e w' => e = .returned (.int .i64 (b'.setA i)) ∧ Pr w0 w' p g q ob b (b'.setS i) v zs := by
  obtain ⟨o, o', x, y, h1, h2, h3, h4, h5, h6⟩ := h.two
  exact (rbSet y i).mono (fun e w' ⟨e1, o2, x2, go⟩ => ⟨e1, Pr.right h.aft h.at0 h.row x y h1 h2 h3 h4 h5 h6 x2 go⟩)
theorem Pr.locked1 (h : Pr w0 W p g q ob b b' v zs) (i : Int) {t : Int} (ht : t ≤ 9223372036854775807) : Calls Try.prog 18 #[Ptr p, .int .i64 i, .int .i64 t] W fun e w' => e = .returned (.tuple #[.bool (b.lockA i t).1, .int .i64 (b.lockA i t).2]) ∧ Pr w0 w' p g q ob (b.lockS i t) b' v zs := by
  obtain ⟨o, o', x, y, h1, h2, h3, h4, h5, h6⟩ := h.two
  exact (buLocked x i ht).mono (fun e w' ⟨e1, o2, x2, go⟩ => ⟨e1, Pr.left h.aft h.at0 h.row x y h1 h2 h3 h4 h5 h6 x2 go⟩)
theorem Pr.locked2 (h : Pr w0 W p g q ob b b' v zs) (i : Int) {t : Int} (ht : t ≤ 9223372036854775807) : Calls Try.prog 24 #[Ptr g, .int .i64 i, .int .i64 t] W fun e w' => e = .returned (.tuple #[.bool (b'.lockA i t).1, .int .i64 (b'.lockA i t).2]) ∧ Pr w0 w' p g q ob b (b'.lockS i t) v zs := by
  obtain ⟨o, o', x, y, h1, h2, h3, h4, h5, h6⟩ := h.two
  exact (rbLocked y i ht).mono (fun e w' ⟨e1, o2, x2, go⟩ => ⟨e1, Pr.right h.aft h.at0 h.row x y h1 h2 h3 h4 h5 h6 x2 go⟩)
theorem Pr.hear1 (h : Pr w0 W p g q ob b b' v zs) (i : Int) : Calls Try.prog 14 #[Ptr p, .int .i64 i] W fun e w' => ∃ u, e = .returned (.tuple #[u, .int .i64 (b.hearA i).1, .int .i64 (b.hearA i).2]) ∧ Pr w0 w' p g q ob (b.hearS i) b' u (b.hearL i) := by
  obtain ⟨o, o', x, y, h1, h2, h3, h4, h5, h6⟩ := h.two
  refine (buHear x i).mono (fun e w' ⟨u, e1, r, x2, go⟩ => ⟨u, e1, ?_⟩)
  have hp := Pr.left h.aft h.at0 (own_nil W 0) x y h1 h2 h3 h4 h5 (fun k hk => by cases hk) x2 go
  have y2 := y.but go.but (fun k hk t => by have := h3 k t; exact hk this)
  refine ⟨hp.aft, hp.at0, own_base r (fun _ _ => Nat.zero_le _), o, o', x2, y2, h1, h2, h3, h4, h5, fun k hk => ?_⟩
  have h7 := (own_lt r hk).1
  refine ⟨?_, ?_⟩
  · rcases Nat.eq_zero_or_pos (o k) with e | e
    · exact e
    · have := x.bnd k (by omega); omega
  · rcases Nat.eq_zero_or_pos (o' k) with e | e
    · exact e
    · have := y.bnd k (by omega); omega
theorem Pr.hear2 (h : Pr w0 W p g q ob b b' v zs) (i : Int) : Calls Try.prog 21 #[Ptr g, .int .i64 i] W fun e w' => ∃ u, e = .returned (.tuple #[u, .int .i64 (b'.hearA i).1, .int .i64 (b'.hearA i).2]) ∧ Pr w0 w' p g q ob b (b'.hearS i) v zs ∧ OInts w' 0 u (b'.hearL i) := by
  obtain ⟨o, o', x, y, h1, h2, h3, h4, h5, h6⟩ := h.two
  exact (rbHear y i).mono (fun e w' ⟨u, e1, r, x2, go⟩ => ⟨u, e1, Pr.right h.aft h.at0 h.row x y h1 h2 h3 h4 h5 h6 x2 go, own_base r (fun _ _ => Nat.zero_le _)⟩)
end
/-- A call that is handed in. -/
structure Dx where
  k : Int
  a : Int
  b : Int
abbrev Dx.cs (d : Dx) : Array Value := #[.int .i64 d.k, .int .i64 d.a, .int .i64 d.b]
def Dx.In (d : Dx) : Prop := -9223372036854775808 ≤ d.k ∧ d.k ≤ 9223372036854775807 ∧ d.b ≤ 9223372036854775807
def dxE : Enc Dx where
  k := 3
  enc d := [.int .i64 d.k, .int .i64 d.a, .int .i64 d.b]
  len _ := rfl
  one x u hu := by
    simp only [List.mem_cons, List.not_mem_nil, or_false] at hu
    rcases hu with rfl | rfl | rfl <;> rfl
  pos := by decide
theorem dx_cells {w0 W : World} {p g q : Nat} {d : Dx} {b b' : Bz} {v : Value} {zs : List Int} (h : Pr w0 W p g q (.cells d.cs 33 (0, 0)) b b' v zs) : W.cell? ⟨q, 0, none⟩ = some (.int .i64 d.k) ∧ W.cell? ⟨q, 1, none⟩ = some (.int .i64 d.a) ∧ W.cell? ⟨q, 2, none⟩ = some (.int .i64 d.b) :=
  ⟨blk_cell h.at0 rfl, blk_cell h.at0 rfl, blk_cell h.at0 rfl⟩
theorem fieldDo1 (w : World) (b off : Nat) : (Instr.fieldAt 33 (.pointer (some ⟨b, off, none⟩)) 1).run Try.prog w = .ok (.pointer (some ⟨b, off + 1, none⟩)) w := by
  simp [go_sem]
theorem fieldDo2 (w : World) (b off : Nat) : (Instr.fieldAt 33 (.pointer (some ⟨b, off, none⟩)) 2).run Try.prog w = .ok (.pointer (some ⟨b, off + 2, none⟩)) w := by
  simp [go_sem]
theorem loadI {w : World} {b off : Nat} {n : Int} (h0 : w.cell? ⟨b, off, none⟩ = some (.int .i64 n)) : (Instr.loadAt 3 (.pointer (some ⟨b, off, none⟩))).run Try.prog w = .ok (.int .i64 n) w := by
  simp [go_sem, h0]
theorem eqlE (x y : Operand) (n : Int) (w : World) : (do eqGuard .eql 25 x y (.int .i64 n) (.int .i64 n); binOp .eql 25 (.int .i64 n) (.int .i64 n) : Sem Value).run Try.prog w = .ok (.bool true) w := by
  simp [go_sem, eqGuard]
theorem pw_assign {o : Oper} {a : Act} {w : World} {K : Act → World → Prop} {Q : Exit → Act → World → Prop} {x : Operand} {v : Value} (ho : o.op = .assign x) (hx : a.eval x = v) (h : K (a.put o.dst v) w) : Oper.wp Try.prog o a w K Q := by
  unfold Oper.wp execOp
  simp only [ho]
  rw [hx]
  exact h
end Go.Proofs.Ytajjfklglnefkaa
