/-
  Single operations on specs, deeds and errors in a region that draws.
-/
import Derived.Test.YthggkpmhcdmalaaPhaseO
import Derived.Test.YthggkpmhcdmalaaAlC
namespace Go.Proofs.Ythggkpmhcdmalaa
open Go.RowKit
set_option maxRecDepth 8000
theorem fieldSp0 (w : World) (b off : Nat) : (Instr.fieldAt 23 (.pointer (some ⟨b, off, none⟩)) 0).run Try.prog w = .ok (.pointer (some ⟨b, off, none⟩)) w := by
  simp [go_sem]
theorem fieldSp1 (w : World) (b off : Nat) : (Instr.fieldAt 23 (.pointer (some ⟨b, off, none⟩)) 1).run Try.prog w = .ok (.pointer (some ⟨b, off + 1, none⟩)) w := by
  simp [go_sem]
theorem fieldSp2 (w : World) (b off : Nat) : (Instr.fieldAt 23 (.pointer (some ⟨b, off, none⟩)) 2).run Try.prog w = .ok (.pointer (some ⟨b, off + 2, none⟩)) w := by
  simp [go_sem]
theorem fieldDd2 (w : World) (b off : Nat) : (Instr.fieldAt 38 (.pointer (some ⟨b, off, none⟩)) 2).run Try.prog w = .ok (.pointer (some ⟨b, off + 2, none⟩)) w := by
  simp [go_sem]
theorem loadI {w : World} {b off : Nat} {n : Int} (h0 : w.cell? ⟨b, off, none⟩ = some (.int .i64 n)) : (Instr.loadAt 3 (.pointer (some ⟨b, off, none⟩))).run Try.prog w = .ok (.int .i64 n) w := by
  simp [go_sem, h0]
theorem loadB {w : World} {b off : Nat} {q : Bool} (h0 : w.cell? ⟨b, off, none⟩ = some (.bool q)) : (Instr.loadAt 4 (.pointer (some ⟨b, off, none⟩))).run Try.prog w = .ok (.bool q) w := by
  simp [go_sem, h0]
theorem neqE (x y : Operand) (n : Int) (w : World) : (do eqGuard .neq 28 x y (.int .i64 n) (.int .i64 n); binOp .neq 28 (.int .i64 n) (.int .i64 n) : Sem Value).run Try.prog w = .ok (.bool false) w := by
  simp [go_sem, eqGuard]
theorem addI (x y : Operand) (n m : Int) (h1 : 0 ≤ n) (h2 : n ≤ 12000) (h3 : 0 ≤ m) (h4 : m ≤ 1073741824) (w : World) : (do eqGuard .add 3 x y (.int .i64 n) (.int .i64 m); binOp .add 3 (.int .i64 n) (.int .i64 m) : Sem Value).run Try.prog w = .ok (.int .i64 (n + m)) w := by
  have e : IntKind.i64.wrap (n + m) = n + m := IntWalk.i64_in _ (by omega)
  simp [go_sem, eqGuard, e]
theorem pw_bin {o : Oper} {a : Act} {w : World} {K : Act → World → Prop} {Q : Exit → Act → World → Prop} {op : BinOp} {t t' : Nat} {x y : Operand} {p q v : Value} (ho : o.op = .binOp op t x y t') (hx : a.eval x = p) (hy : a.eval y = q) (hr : (do eqGuard op t x y p q; binOp op t p q : Sem Value).run Try.prog w = .ok v w) (h : K (a.put o.dst v) w) : Oper.wp Try.prog o a w K Q := by
  refine pw_val (r := do eqGuard op t x y (a.eval x) (a.eval y); binOp op t (a.eval x) (a.eval y)) (by unfold execOp; rw [ho]) ?_ h
  rw [hx, hy]
  exact hr
section
variable {ops : Array Oper} {V : Nat → Value} {d : Nat} {b : Act} {I : (Nat → Bool) → World → Prop} {k : Nat} {o : Oper}
theorem ph_build3 {t i0 i1 i2 : Nat} {x0 x1 x2 : Operand} {u0 u1 u2 : Value} (ho : o.op = .build t #[(i0, x0), (i1, x1), (i2, x2)]) (h1 : o.dst = some (d + k)) (h2 : o.after.toList.all (fun e => decide (e.on < k)) = true) (h3 : guardB V o = true) (hx0 : valP V d b o x0 = some u0) (hx1 : valP V d b o x1 = some u1) (hx2 : valP V d b o x2 = some u2) (hr : ∀ w, (Instr.build t #[(i0, u0), (i1, u1), (i2, u2)]).run Try.prog w = .ok (V k) w) (keep : ∀ L w, I L w → I (more L k) w) : PhOk Try.prog ops V d b I k o :=
  ph_mk h1 h2 h3 (fun a w L K Q _ hv _ hi hk => by
    refine pw_val (r := Instr.build t #[(i0, u0), (i1, u1), (i2, u2)]) ?_ (hr w) (hk w (keep L w hi))
    unfold execOp
    simp [ho, hv _ _ hx0, hv _ _ hx1, hv _ _ hx2])
end
theorem build_spec (x y : Int) (q : Bool) (w : World) : (Instr.build 23 #[(0, .int .i64 x), (1, .bool q), (2, .int .i64 y)]).run Try.prog w = .ok (.agg #[.int .i64 x, .bool q, .int .i64 y]) w := by
  simp [go_sem]
theorem run_storeSpec {w : World} {g : Nat} {x0 y0 z0 : Value} (h : w.heap[g]? = some (.cells #[x0, y0, z0] 23 (0, 0))) (x y : Int) (q : Bool) : (Instr.storeAt 23 (Ptr g) (.agg #[.int .i64 x, .bool q, .int .i64 y])).run Try.prog w = .ok () (((w.setCell ⟨g, 0, none⟩ (.int .i64 x)).setCell ⟨g, 1, none⟩ (.bool q)).setCell ⟨g, 2, none⟩ (.int .i64 y)) := by
  have c0 := blk_cell (i := 0) (v := x0) h rfl
  have f0 := blk_soft h 0
  have h1 := blk_put h 0 (.int .i64 x)
  have c1 := blk_cell (i := 1) (v := y0) h1 rfl
  have f1 := blk_soft h1 1
  have h2 := blk_put h1 1 (.bool q)
  have c2 := blk_cell (i := 2) (v := z0) h2 rfl
  have f2 := blk_soft h2 2
  simp [go_sem, c0, f0, c1, f1, c2, f2]
theorem pw_store {o : Oper} {a : Act} {w w' : World} {K : Act → World → Prop} {Q : Exit → Act → World → Prop} {t : Nat} {x y : Operand} {p v : Value} (ho : o.op = .store t x y) (hd : o.dst = none) (hx : a.eval x = p) (hy : a.eval y = v) (hr : (Instr.storeAt t p v).run Try.prog w = .ok () w') (h : K a w') : Oper.wp Try.prog o a w K Q := by
  unfold Oper.wp execOp
  simp only [ho]
  rw [hx, hy]
  simp [hr, Oper.upon]
  rw [hd]
  exact h
end Go.Proofs.Ythggkpmhcdmalaa
