/-
  Single operations, of whatever frame.
-/
import Derived.Test.YtmdbpoknehafaaaDrawn
import Derived.Test.YtmdbpoknehafaaaJoins
import Derived.Great.BuildSlice
namespace Go.Proofs.Ytmdbpoknehafaaa
open Go.RowKit
section
variable {o : Oper} {a : Act} {w : World} {K : Act → World → Prop} {Q : Exit → Act → World → Prop}
theorem wp_move {x : Operand} (ho : o.op = .move x) (h : K (a.put o.dst (a.eval x)) w) : Oper.wp Try.prog o a w K Q := by
  unfold Oper.wp execOp
  simp only [ho]
  exact h
theorem wp_assign {x : Operand} (ho : o.op = .assign x) (h : K (a.put o.dst (a.eval x)) w) : Oper.wp Try.prog o a w K Q := by
  unfold Oper.wp execOp
  simp only [ho]
  exact h
theorem wp_pick {c x y : Operand} (ho : o.op = .pick c x y) (hc : a.eval c = .bool true) (h : K (a.put o.dst (a.eval x)) w) : Oper.wp Try.prog o a w K Q := by
  unfold Oper.wp execOp
  simp [ho, hc, asBool, Oper.upon]
  exact h
theorem wp_val {r : Sem Value} {v : Value} {w' : World} (he : (execOp a.eval o) = (do pure (.value (← r)))) (hr : r.run Try.prog w = .ok v w') (h : K (a.put o.dst v) w') : Oper.wp Try.prog o a w K Q := by
  unfold Oper.wp
  rw [he]
  simp [hr, Oper.upon]
  exact h
theorem wp_build {t len : Nat} {parts : Array (Nat × Operand)} {v : Value} {w' : World} (ho : o.op = .buildSlice t len parts) (hr : (Instr.buildSlice t len (parts.map fun (i, x) => (i, a.eval x))).run Try.prog w = .ok v w') (h : K (a.put o.dst v) w') : Oper.wp Try.prog o a w K Q :=
  wp_val (by unfold execOp; rw [ho]) hr h
theorem wp_make {t : Nat} {l c : Operand} {v : Value} {w' : World} (ho : o.op = .makeSlice t l c) (hr : (Instr.makeSlice t (a.eval l) (a.eval c)).run Try.prog w = .ok v w') (h : K (a.put o.dst v) w') : Oper.wp Try.prog o a w K Q :=
  wp_val (by unfold execOp; rw [ho]) hr h
theorem wp_slice {t : Nat} {x : Operand} {lo hi mx : Option Operand} {v : Value} {w' : World} (ho : o.op = .slice t x lo hi mx) (hr : (Instr.sliceAt t (a.eval x) (lo.map a.eval) (hi.map a.eval) (mx.map a.eval)).run Try.prog w = .ok v w') (h : K (a.put o.dst v) w') : Oper.wp Try.prog o a w K Q :=
  wp_val (by unfold execOp; rw [ho]) hr h
theorem wp_func {f : Nat} {xs : Array Operand} {ts : Array Nat} (ho : o.op = .call { callee := .value (.func f), args := xs, argTypes := ts }) (hf : ∀ args W, (callFunc f args).run Try.prog W = .ok (.enter f args) W) (h : Calls Try.prog f (xs.map a.eval) w fun e w' => ∃ v, e = .returned v ∧ K (a.put o.dst v) w') : Oper.wp Try.prog o a w K Q := by
  unfold Oper.wp execOp
  have e : a.eval (.func f) = .func (.func f) #[] #[] := rfl
  simp [ho, resolve, e, Deferred.ofValue, invoke, hf, Oper.upon]
  refine Calls.mono h ?_
  rintro e w' ⟨v, rfl, hk⟩
  exact hk
theorem wp_eql {t t' : Nat} {x y : Operand} {n : Int} (ho : o.op = .binOp .eql t x y t') (_ht : Try.prog.underlying t = some (.int .i64)) (hx : a.eval x = .int .i64 n) (hy : a.eval y = .int .i64 n) (h : K (a.put o.dst (.bool true)) w) : Oper.wp Try.prog o a w K Q := by
  unfold Oper.wp execOp
  simp only [ho, hx, hy]
  simp [go_sem, Oper.upon, eqGuard]
  exact h
theorem wp_len {x : Operand} {p : Option Addr} {n c t : Nat} (ho : o.op = .call { callee := .builtin .len, args := #[x], argTypes := #[t] }) (ht : Try.prog.underlying t = some (.slice (Try.prog.elem t))) (hx : a.eval x = .slice p n c) (h : K (a.put o.dst (.int .i64 n)) w) : Oper.wp Try.prog o a w K Q := by
  unfold Oper.wp execOp
  simp [ho, hx, resolve, invoke, builtin, Builtin.len_, run_underlying ht, Oper.upon]
  exact h
end
end Go.Proofs.Ytmdbpoknehafaaa
