/-
  Steps: single operations upon them in a region that draws.
-/
import Derived.Test.YtnjdhnoippifaaaPhaseO
import Derived.Test.YtnjdhnoippifaaaLpM
namespace Go.Proofs.Ytnjdhnoippifaaa
open Go.RowKit
set_option maxRecDepth 8000
theorem fieldS0 (w : World) (b off : Nat) : (Instr.fieldAt 31 (.pointer (some ⟨b, off, none⟩)) 0).run Try.prog w = .ok (.pointer (some ⟨b, off, none⟩)) w := by
  simp [go_sem]
theorem fieldS1 (w : World) (b off : Nat) : (Instr.fieldAt 31 (.pointer (some ⟨b, off, none⟩)) 1).run Try.prog w = .ok (.pointer (some ⟨b, off + 1, none⟩)) w := by
  simp [go_sem]
theorem fieldS2 (w : World) (b off : Nat) : (Instr.fieldAt 31 (.pointer (some ⟨b, off, none⟩)) 2).run Try.prog w = .ok (.pointer (some ⟨b, off + 2, none⟩)) w := by
  simp [go_sem]
theorem indexS (w : World) (b off n c k : Nat) (hk : (k : Int) < (n : Int)) : (Instr.indexAt 22 (.slice (some ⟨b, off, none⟩) n c) (.int .i64 (k : Int))).run Try.prog w = .ok (.pointer (some ⟨b, off + k * 3, none⟩)) w := by
  simp [go_sem, hk]
theorem loadI {w : World} {b off : Nat} {n : Int} (h0 : w.cell? ⟨b, off, none⟩ = some (.int .i64 n)) : (Instr.loadAt 3 (.pointer (some ⟨b, off, none⟩))).run Try.prog w = .ok (.int .i64 n) w := by
  simp [go_sem, h0]
theorem loadB {w : World} {b off : Nat} {q : Bool} (h0 : w.cell? ⟨b, off, none⟩ = some (.bool q)) : (Instr.loadAt 4 (.pointer (some ⟨b, off, none⟩))).run Try.prog w = .ok (.bool q) w := by
  simp [go_sem, h0]
theorem neqE (x y : Operand) (n : Int) (w : World) : (do eqGuard .neq 24 x y (.int .i64 n) (.int .i64 n); binOp .neq 24 (.int .i64 n) (.int .i64 n) : Sem Value).run Try.prog w = .ok (.bool false) w := by
  simp [go_sem, eqGuard]
theorem addI (x y : Operand) (n m : Int) (h1 : 0 ≤ n) (h2 : n ≤ 12000) (h3 : 0 ≤ m) (h4 : m ≤ 1073741824) (w : World) : (do eqGuard .add 3 x y (.int .i64 n) (.int .i64 m); binOp .add 3 (.int .i64 n) (.int .i64 m) : Sem Value).run Try.prog w = .ok (.int .i64 (n + m)) w := by
  have e : IntKind.i64.wrap (n + m) = n + m := IntWalk.i64_in _ (by omega)
  simp [go_sem, eqGuard, e]
theorem pw_pick {o : Oper} {a : Act} {w : World} {K : Act → World → Prop} {Q : Exit → Act → World → Prop} {c x y : Operand} (q : Bool) (ho : o.op = .pick c x y) (hc : a.eval c = .bool q) (h : K (a.put o.dst (if q then a.eval x else a.eval y)) w) : Oper.wp Try.prog o a w K Q := by
  unfold Oper.wp execOp
  simp [ho, hc, asBool, Oper.upon]
  exact h
theorem pw_assign {o : Oper} {a : Act} {w : World} {K : Act → World → Prop} {Q : Exit → Act → World → Prop} {x : Operand} {v : Value} (ho : o.op = .assign x) (hx : a.eval x = v) (h : K (a.put o.dst v) w) : Oper.wp Try.prog o a w K Q := by
  unfold Oper.wp execOp
  simp only [ho, hx]
  exact h
theorem pw_bin {o : Oper} {a : Act} {w : World} {K : Act → World → Prop} {Q : Exit → Act → World → Prop} {op : BinOp} {t t' : Nat} {x y : Operand} {p q v : Value} (ho : o.op = .binOp op t x y t') (hx : a.eval x = p) (hy : a.eval y = q) (hr : (do eqGuard op t x y p q; binOp op t p q : Sem Value).run Try.prog w = .ok v w) (h : K (a.put o.dst v) w) : Oper.wp Try.prog o a w K Q := by
  refine pw_val (r := do eqGuard op t x y (a.eval x) (a.eval y); binOp op t (a.eval x) (a.eval y)) (by unfold execOp; rw [ho]) ?_ h
  rw [hx, hy]
  exact hr
/-- Two, the one behind the other, made behind w. -/
structure Twin (w : World) (p n : Nat) (s r : Ls) (W : World) : Prop where
  aft : After w W
  wp : w.heap.size ≤ p
  a : LpX W p n s
  b : LpX W (p + 1) n r
theorem Twin.after {w W W' : World} {p n : Nat} {s r : Ls} (x : Twin w p n s r W) (h : After W W') : Twin w p n s r W' := ⟨x.aft.trans h, x.wp, x.a.after h, x.b.after h⟩
theorem Twin.ah {w W : World} {p n : Nat} {s r : Ls} (x : Twin w p n s r W) (t : Int) (o : Bool) : Calls Try.prog 10 #[Ptr p, .int .i64 t, .bool o] W fun e w' => e = .returned (.int .i64 (s.err t)) ∧ Twin w p n (s.hear t o) r w' :=
  (lpHeard_any x.a t o).mono (fun e w' q => ⟨q.1, x.aft.then q.2.2 (fun i hi t => by have : i = p := t; have := x.wp; omega), x.wp, q.2.1, x.b.but q.2.2 (fun t => by have : p + 1 = p := t; omega)⟩)
theorem Twin.bh {w W : World} {p n : Nat} {s r : Ls} (x : Twin w p n s r W) (t : Int) (o : Bool) : Calls Try.prog 10 #[Ptr (p + 1), .int .i64 t, .bool o] W fun e w' => e = .returned (.int .i64 (r.err t)) ∧ Twin w p n s (r.hear t o) w' :=
  (lpHeard_any x.b t o).mono (fun e w' q => ⟨q.1, x.aft.then q.2.2 (fun i hi t => by have : i = p + 1 := t; have := x.wp; omega), x.wp, x.a.but q.2.2 (fun t => by have : p = p + 1 := t; omega), q.2.1⟩)
/-- What two calls of New answer. -/
theorem twin_new (w W : World) (n : Nat) (a : After w W) (h1 : 1 ≤ n) (h2 : n ≤ 10000) : ∃ W1 W2, Calls Try.prog 8 #[.int .i64 (n : Int)] W (fun e w' => e = .returned (.tuple #[Ptr W.heap.size, .int .i64 0]) ∧ w' = W1) ∧ Calls Try.prog 8 #[.int .i64 (n : Int)] W1 (fun e w' => e = .returned (.tuple #[Ptr (W.heap.size + 1), .int .i64 0]) ∧ w' = W2) ∧ Twin w W.heap.size n Ls.new Ls.new W2 := by
  have hm : May (n : Int) := by unfold May; omega
  obtain ⟨O1, hO1⟩ : ∃ O : Obj, O = .cells #[.int .i64 (n : Int), .bool false, .bool false, .int .i64 0] 43 := ⟨_, rfl⟩
  have z1 : (W.alloc O1).heap.size = W.heap.size + 1 := by simp
  have y1 := heap_alloc_new W O1
  have y2 := heap_alloc_new (W.alloc O1) O1
  have c1 := lpNew_ok W n hm
  have c2 := lpNew_ok (W.alloc O1) n hm
  rw [← hO1] at c1 c2
  rw [z1] at y2 c2
  refine ⟨_, _, c1, c2, (a.alloc _).alloc _, a.size, ?_, ?_⟩
  · refine lp_new ?_ h1 h2
    rw [Below.heap_alloc _ _ _ (by rw [z1]; omega), y1, hO1]
  · refine lp_new ?_ h1 h2
    rw [y2, hO1]
end Go.Proofs.Ytnjdhnoippifaaa
