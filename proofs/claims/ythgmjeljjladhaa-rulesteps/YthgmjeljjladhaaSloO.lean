/-
  Single operations, of whatever frame; words for what slots hold; nodes that are built and listed.
-/
import Derived.Test.YthgmjeljjladhaaSlo
import Derived.Test.YthgmjeljjladhaaFoJ
namespace Go.Proofs.Ythgmjeljjladhaa
open Go.RowKit
set_option maxRecDepth 8000
section
variable {o : Oper} {a : Act} {w w' : World} {K : Act → World → Prop} {Q : Exit → Act → World → Prop}
theorem wp_val {r : Sem Value} {v : Value} (he : (execOp a.eval o) = (do pure (.value (← r)))) (hr : r.run Try.prog w = .ok v w') (h : K (a.put o.dst v) w') : Oper.wp Try.prog o a w K Q := by
  unfold Oper.wp
  rw [he]
  simp [hr, Oper.upon]
  exact h
theorem wp_move {x : Operand} {v : Value} (ho : o.op = .move x ∨ o.op = .assign x) (hx : a.eval x = v) (h : K (a.put o.dst v) w) : Oper.wp Try.prog o a w K Q := by
  unfold Oper.wp execOp
  rcases ho with ho | ho
  all_goals
    simp only [ho, hx]
    exact h
theorem wp_pick {c x y : Operand} {b : Bool} {v : Value} (ho : o.op = .pick c x y) (hc : a.eval c = .bool b) (hx : (if b then a.eval x else a.eval y) = v) (h : K (a.put o.dst v) w) : Oper.wp Try.prog o a w K Q := by
  unfold Oper.wp execOp
  simp [ho, hc, asBool, Oper.upon]
  rw [hx]
  exact h
theorem wp_pickT {c x y : Operand} {v : Value} (ho : o.op = .pick c x y) (hc : a.eval c = .bool true) (hx : a.eval x = v) (h : K (a.put o.dst v) w) : Oper.wp Try.prog o a w K Q := wp_pick ho hc (by simpa using hx) h
theorem wp_pickF {c x y : Operand} {v : Value} (ho : o.op = .pick c x y) (hc : a.eval c = .bool false) (hy : a.eval y = v) (h : K (a.put o.dst v) w) : Oper.wp Try.prog o a w K Q := wp_pick ho hc (by simpa using hy) h
theorem wp_func0 {f : Nat} {ts : Array Nat} (ho : o.op = .call { callee := .value (.func f), args := #[], argTypes := ts }) (hf : ∀ args W, (callFunc f args).run Try.prog W = .ok (.enter f args) W) (h : Calls Try.prog f #[] w fun e w' => ∃ v, e = .returned v ∧ K (a.put o.dst v) w') : Oper.wp Try.prog o a w K Q := by
  unfold Oper.wp execOp
  have e : a.eval (.func f) = .func (.func f) #[] #[] := rfl
  simp [ho, resolve, e, Deferred.ofValue, invoke, hf, Oper.upon]
  refine Calls.mono h ?_
  rintro e w' ⟨v, rfl, hk⟩
  exact hk
theorem wp_func1 {f : Nat} {ts : Array Nat} {x0 : Operand} {u0 : Value} (ho : o.op = .call { callee := .value (.func f), args := #[x0], argTypes := ts }) (hf : ∀ args W, (callFunc f args).run Try.prog W = .ok (.enter f args) W) (h0 : a.eval x0 = u0) (h : Calls Try.prog f #[u0] w fun e w' => ∃ v, e = .returned v ∧ K (a.put o.dst v) w') : Oper.wp Try.prog o a w K Q := by
  unfold Oper.wp execOp
  have e : a.eval (.func f) = .func (.func f) #[] #[] := rfl
  simp [ho, resolve, e, Deferred.ofValue, invoke, hf, Oper.upon, h0]
  refine Calls.mono h ?_
  rintro e w' ⟨v, rfl, hk⟩
  exact hk
theorem wp_build1 {t : Nat} {i0 : Nat} {x0 : Operand} {u0 v : Value} (ho : o.op = .build t #[(i0, x0)]) (h0 : a.eval x0 = u0) (hr : (Instr.build t #[(i0, u0)]).run Try.prog w = .ok v w) (h : K (a.put o.dst v) w) : Oper.wp Try.prog o a w K Q := by
  refine wp_val (r := Instr.build t #[(i0, u0)]) ?_ hr h
  unfold execOp
  simp [ho, h0]
theorem wp_slice1 {t m : Nat} {i0 : Nat} {x0 : Operand} {u0 v : Value} (ho : o.op = .buildSlice t m #[(i0, x0)]) (h0 : a.eval x0 = u0) (hr : (Instr.buildSlice t m #[(i0, u0)]).run Try.prog w = .ok v w') (h : K (a.put o.dst v) w') : Oper.wp Try.prog o a w K Q := by
  refine wp_val (r := Instr.buildSlice t m #[(i0, u0)]) ?_ hr h
  unfold execOp
  simp [ho, h0]
theorem wp_func2 {f : Nat} {ts : Array Nat} {x0 x1 : Operand} {u0 u1 : Value} (ho : o.op = .call { callee := .value (.func f), args := #[x0, x1], argTypes := ts }) (hf : ∀ args W, (callFunc f args).run Try.prog W = .ok (.enter f args) W) (h0 : a.eval x0 = u0) (h1 : a.eval x1 = u1) (h : Calls Try.prog f #[u0, u1] w fun e w' => ∃ v, e = .returned v ∧ K (a.put o.dst v) w') : Oper.wp Try.prog o a w K Q := by
  unfold Oper.wp execOp
  have e : a.eval (.func f) = .func (.func f) #[] #[] := rfl
  simp [ho, resolve, e, Deferred.ofValue, invoke, hf, Oper.upon, h0, h1]
  refine Calls.mono h ?_
  rintro e w' ⟨v, rfl, hk⟩
  exact hk
theorem wp_build2 {t : Nat} {i0 i1 : Nat} {x0 x1 : Operand} {u0 u1 v : Value} (ho : o.op = .build t #[(i0, x0), (i1, x1)]) (h0 : a.eval x0 = u0) (h1 : a.eval x1 = u1) (hr : (Instr.build t #[(i0, u0), (i1, u1)]).run Try.prog w = .ok v w) (h : K (a.put o.dst v) w) : Oper.wp Try.prog o a w K Q := by
  refine wp_val (r := Instr.build t #[(i0, u0), (i1, u1)]) ?_ hr h
  unfold execOp
  simp [ho, h0, h1]
theorem wp_slice2 {t m : Nat} {i0 i1 : Nat} {x0 x1 : Operand} {u0 u1 v : Value} (ho : o.op = .buildSlice t m #[(i0, x0), (i1, x1)]) (h0 : a.eval x0 = u0) (h1 : a.eval x1 = u1) (hr : (Instr.buildSlice t m #[(i0, u0), (i1, u1)]).run Try.prog w = .ok v w') (h : K (a.put o.dst v) w') : Oper.wp Try.prog o a w K Q := by
  refine wp_val (r := Instr.buildSlice t m #[(i0, u0), (i1, u1)]) ?_ hr h
  unfold execOp
  simp [ho, h0, h1]
theorem wp_func3 {f : Nat} {ts : Array Nat} {x0 x1 x2 : Operand} {u0 u1 u2 : Value} (ho : o.op = .call { callee := .value (.func f), args := #[x0, x1, x2], argTypes := ts }) (hf : ∀ args W, (callFunc f args).run Try.prog W = .ok (.enter f args) W) (h0 : a.eval x0 = u0) (h1 : a.eval x1 = u1) (h2 : a.eval x2 = u2) (h : Calls Try.prog f #[u0, u1, u2] w fun e w' => ∃ v, e = .returned v ∧ K (a.put o.dst v) w') : Oper.wp Try.prog o a w K Q := by
  unfold Oper.wp execOp
  have e : a.eval (.func f) = .func (.func f) #[] #[] := rfl
  simp [ho, resolve, e, Deferred.ofValue, invoke, hf, Oper.upon, h0, h1, h2]
  refine Calls.mono h ?_
  rintro e w' ⟨v, rfl, hk⟩
  exact hk
theorem wp_build3 {t : Nat} {i0 i1 i2 : Nat} {x0 x1 x2 : Operand} {u0 u1 u2 v : Value} (ho : o.op = .build t #[(i0, x0), (i1, x1), (i2, x2)]) (h0 : a.eval x0 = u0) (h1 : a.eval x1 = u1) (h2 : a.eval x2 = u2) (hr : (Instr.build t #[(i0, u0), (i1, u1), (i2, u2)]).run Try.prog w = .ok v w) (h : K (a.put o.dst v) w) : Oper.wp Try.prog o a w K Q := by
  refine wp_val (r := Instr.build t #[(i0, u0), (i1, u1), (i2, u2)]) ?_ hr h
  unfold execOp
  simp [ho, h0, h1, h2]
theorem wp_slice3 {t m : Nat} {i0 i1 i2 : Nat} {x0 x1 x2 : Operand} {u0 u1 u2 v : Value} (ho : o.op = .buildSlice t m #[(i0, x0), (i1, x1), (i2, x2)]) (h0 : a.eval x0 = u0) (h1 : a.eval x1 = u1) (h2 : a.eval x2 = u2) (hr : (Instr.buildSlice t m #[(i0, u0), (i1, u1), (i2, u2)]).run Try.prog w = .ok v w') (h : K (a.put o.dst v) w') : Oper.wp Try.prog o a w K Q := by
  refine wp_val (r := Instr.buildSlice t m #[(i0, u0), (i1, u1), (i2, u2)]) ?_ hr h
  unfold execOp
  simp [ho, h0, h1, h2]
theorem wp_func4 {f : Nat} {ts : Array Nat} {x0 x1 x2 x3 : Operand} {u0 u1 u2 u3 : Value} (ho : o.op = .call { callee := .value (.func f), args := #[x0, x1, x2, x3], argTypes := ts }) (hf : ∀ args W, (callFunc f args).run Try.prog W = .ok (.enter f args) W) (h0 : a.eval x0 = u0) (h1 : a.eval x1 = u1) (h2 : a.eval x2 = u2) (h3 : a.eval x3 = u3) (h : Calls Try.prog f #[u0, u1, u2, u3] w fun e w' => ∃ v, e = .returned v ∧ K (a.put o.dst v) w') : Oper.wp Try.prog o a w K Q := by
  unfold Oper.wp execOp
  have e : a.eval (.func f) = .func (.func f) #[] #[] := rfl
  simp [ho, resolve, e, Deferred.ofValue, invoke, hf, Oper.upon, h0, h1, h2, h3]
  refine Calls.mono h ?_
  rintro e w' ⟨v, rfl, hk⟩
  exact hk
theorem wp_build4 {t : Nat} {i0 i1 i2 i3 : Nat} {x0 x1 x2 x3 : Operand} {u0 u1 u2 u3 v : Value} (ho : o.op = .build t #[(i0, x0), (i1, x1), (i2, x2), (i3, x3)]) (h0 : a.eval x0 = u0) (h1 : a.eval x1 = u1) (h2 : a.eval x2 = u2) (h3 : a.eval x3 = u3) (hr : (Instr.build t #[(i0, u0), (i1, u1), (i2, u2), (i3, u3)]).run Try.prog w = .ok v w) (h : K (a.put o.dst v) w) : Oper.wp Try.prog o a w K Q := by
  refine wp_val (r := Instr.build t #[(i0, u0), (i1, u1), (i2, u2), (i3, u3)]) ?_ hr h
  unfold execOp
  simp [ho, h0, h1, h2, h3]
theorem wp_slice4 {t m : Nat} {i0 i1 i2 i3 : Nat} {x0 x1 x2 x3 : Operand} {u0 u1 u2 u3 v : Value} (ho : o.op = .buildSlice t m #[(i0, x0), (i1, x1), (i2, x2), (i3, x3)]) (h0 : a.eval x0 = u0) (h1 : a.eval x1 = u1) (h2 : a.eval x2 = u2) (h3 : a.eval x3 = u3) (hr : (Instr.buildSlice t m #[(i0, u0), (i1, u1), (i2, u2), (i3, u3)]).run Try.prog w = .ok v w') (h : K (a.put o.dst v) w') : Oper.wp Try.prog o a w K Q := by
  refine wp_val (r := Instr.buildSlice t m #[(i0, u0), (i1, u1), (i2, u2), (i3, u3)]) ?_ hr h
  unfold execOp
  simp [ho, h0, h1, h2, h3]
theorem wp_load {t : Nat} {x : Operand} {p v : Value} (ho : o.op = .load t x) (hx : a.eval x = p) (hr : (Instr.loadAt t p).run Try.prog w = .ok v w) (h : K (a.put o.dst v) w) : Oper.wp Try.prog o a w K Q := by
  refine wp_val (r := Instr.loadAt t p) ?_ hr h
  unfold execOp
  simp [ho, hx]
theorem wp_field {t i : Nat} {x : Operand} {p v : Value} (ho : o.op = .fieldAddr t x i) (hx : a.eval x = p) (hr : (Instr.fieldAt t p i).run Try.prog w = .ok v w) (h : K (a.put o.dst v) w) : Oper.wp Try.prog o a w K Q := by
  refine wp_val (r := Instr.fieldAt t p i) ?_ hr h
  unfold execOp
  simp [ho, hx]
theorem wp_index {t : Nat} {x y : Operand} {p q v : Value} (ho : o.op = .indexAddr t x y) (hx : a.eval x = p) (hy : a.eval y = q) (hr : (Instr.indexAt t p q).run Try.prog w = .ok v w) (h : K (a.put o.dst v) w) : Oper.wp Try.prog o a w K Q := by
  refine wp_val (r := Instr.indexAt t p q) ?_ hr h
  unfold execOp
  simp [ho, hx, hy]
theorem wp_bin {op : BinOp} {t t' : Nat} {x y : Operand} {p q v : Value} (ho : o.op = .binOp op t x y t') (hx : a.eval x = p) (hy : a.eval y = q) (hr : (do eqGuard op t x y p q; binOp op t p q : Sem Value).run Try.prog w = .ok v w) (h : K (a.put o.dst v) w) : Oper.wp Try.prog o a w K Q := by
  refine wp_val (r := do eqGuard op t x y p q; binOp op t p q) ?_ hr h
  unfold execOp
  simp [ho, hx, hy]
theorem wp_len {t : Nat} {x : Operand} {p v : Value} (ho : o.op = .call { callee := .builtin .len, args := #[x], argTypes := #[t] }) (hx : a.eval x = p) (hr : (Builtin.len_ #[t] o.type #[p]).run Try.prog w = .ok v w) (h : K (a.put o.dst v) w) : Oper.wp Try.prog o a w K Q := by
  unfold Oper.wp execOp
  simp [ho, resolve, invoke, hx, Oper.upon, builtin, hr]
  exact h
theorem wp_not {t : Nat} {x : Operand} {b : Bool} (ho : o.op = .unOp .not t x) (hx : a.eval x = .bool b) (h : K (a.put o.dst (.bool (!b))) w) : Oper.wp Try.prog o a w K Q := by
  refine wp_val (r := Op.unary .not (.bool b)) ?_ (by simp [go_sem]) h
  unfold execOp
  simp [ho, hx]
end
theorem enter_of {f : Nat} {fn : Func} (hf : Try.prog.funcs[f]? = some fn) (hname : (fn.name == "runtime.NumGoroutine") = false) (hb0 : fn.body.isSome = true) (args : Array Value) (w : World) : (callFunc f args).run Try.prog w = .ok (.enter f args) w := by
  obtain ⟨c, hb⟩ := Option.isSome_iff_exists.1 hb0
  have hn : fn.name ≠ "runtime.NumGoroutine" := by simpa using hname
  simp [callFunc, go_sem, hf, hn, hb]
/-- A value. -/
def isV (u : Value) : Wd := fun v _ => v = u
/-- Nodes in a row. -/
def isRow (L : List Nd) : Wd := fun v w => ∃ a c, v = .slice a L.length c ∧ NRow w a L.length L ∧ (a = none → L.length = 0 ∧ c = 0)
/-- A past. -/
def isPast (C : List Ch) (T : List (List Rd)) : Wd := fun v w => PastAt w v C T
theorem isV_st (u : Value) : (isV u).Stable := fun _ _ _ h _ => h
theorem isRow_st (L : List Nd) : (isRow L).Stable := fun _ _ _ h b => by
  obtain ⟨a, c, e, h1, h2⟩ := h
  exact ⟨a, c, e, h1.after b, h2⟩
theorem isPast_st (C : List Ch) (T : List (List Rd)) : (isPast C T).Stable := fun _ _ _ h b => PastAt.after h b
theorem stable_all {Ts : List Wd} (h : ∀ P ∈ Ts, Wd.Stable P) : ∀ i, (wdAt Ts i).Stable := by
  intro i
  unfold wdAt
  rcases hi : Ts[i]? with _ | P
  · have e : Ts.getD i (fun _ _ => True) = fun _ _ => True := by simp [List.getD, hi]
    rw [e]
    exact fun _ _ _ _ _ => trivial
  · have e : Ts.getD i (fun _ _ => True) = P := by simp [List.getD, hi]
    rw [e]
    exact h P (List.mem_of_getElem? hi)
theorem st_nil : ∀ P ∈ ([] : List Wd), Wd.Stable P := fun P h => by cases h
theorem st_cons {P : Wd} {Ts : List Wd} (h : P.Stable) (k : ∀ P ∈ Ts, Wd.Stable P) : ∀ R ∈ P :: Ts, Wd.Stable R := fun R hR => by
  rcases List.mem_cons.1 hR with rfl | hR
  · exact h
  · exact k R hR
theorem bn0 (x0 : Int) (w : World) : (Instr.build 38 #[(0, .int .i64 x0)]).run Try.prog w = .ok (.agg #[.int .i64 x0, .int .i64 0, .int .i64 0, .int .i64 0]) w := by
  simp [go_sem]
theorem bn01 (x0 x1 : Int) (w : World) : (Instr.build 38 #[(0, .int .i64 x0), (1, .int .i64 x1)]).run Try.prog w = .ok (.agg #[.int .i64 x0, .int .i64 x1, .int .i64 0, .int .i64 0]) w := by
  simp [go_sem]
theorem bn012 (x0 x1 x2 : Int) (w : World) : (Instr.build 38 #[(0, .int .i64 x0), (1, .int .i64 x1), (2, .int .i64 x2)]).run Try.prog w = .ok (.agg #[.int .i64 x0, .int .i64 x1, .int .i64 x2, .int .i64 0]) w := by
  simp [go_sem]
theorem bn013 (x0 x1 x3 : Int) (w : World) : (Instr.build 38 #[(0, .int .i64 x0), (1, .int .i64 x1), (3, .int .i64 x3)]).run Try.prog w = .ok (.agg #[.int .i64 x0, .int .i64 x1, .int .i64 0, .int .i64 x3]) w := by
  simp [go_sem]
theorem bn03 (x0 x3 : Int) (w : World) : (Instr.build 38 #[(0, .int .i64 x0), (3, .int .i64 x3)]).run Try.prog w = .ok (.agg #[.int .i64 x0, .int .i64 0, .int .i64 0, .int .i64 x3]) w := by
  simp [go_sem]
theorem bn02 (x0 x2 : Int) (w : World) : (Instr.build 38 #[(0, .int .i64 x0), (2, .int .i64 x2)]).run Try.prog w = .ok (.agg #[.int .i64 x0, .int .i64 0, .int .i64 x2, .int .i64 0]) w := by
  simp [go_sem]
theorem rowOf1 (n0 : Nd) (w : World) : ∃ v w', (Instr.buildSlice 22 1 #[(0, n0.val)]).run Try.prog w = .ok v w' ∧ isRow [n0] v w' ∧ After w w' := by
  refine ⟨.slice (some ⟨w.heap.size, 0, none⟩) 1 1, w.alloc (.cells #[.int .i64 n0.op, .int .i64 n0.a, .int .i64 n0.b, .int .i64 n0.n] 38), ?_, ⟨_, _, rfl, lit_row (heap_alloc_new w _) rfl rfl, fun h => by cases h⟩, After.rfl.alloc _⟩
  unfold Nd.val
  simp [go_sem]
theorem rowOf2 (n0 n1 : Nd) (w : World) : ∃ v w', (Instr.buildSlice 22 2 #[(0, n0.val), (1, n1.val)]).run Try.prog w = .ok v w' ∧ isRow [n0, n1] v w' ∧ After w w' := by
  refine ⟨.slice (some ⟨w.heap.size, 0, none⟩) 2 2, w.alloc (.cells #[.int .i64 n0.op, .int .i64 n0.a, .int .i64 n0.b, .int .i64 n0.n, .int .i64 n1.op, .int .i64 n1.a, .int .i64 n1.b, .int .i64 n1.n] 38), ?_, ⟨_, _, rfl, lit_row (heap_alloc_new w _) rfl rfl, fun h => by cases h⟩, After.rfl.alloc _⟩
  unfold Nd.val
  simp [go_sem]
theorem rowOf3 (n0 n1 n2 : Nd) (w : World) : ∃ v w', (Instr.buildSlice 22 3 #[(0, n0.val), (1, n1.val), (2, n2.val)]).run Try.prog w = .ok v w' ∧ isRow [n0, n1, n2] v w' ∧ After w w' := by
  refine ⟨.slice (some ⟨w.heap.size, 0, none⟩) 3 3, w.alloc (.cells #[.int .i64 n0.op, .int .i64 n0.a, .int .i64 n0.b, .int .i64 n0.n, .int .i64 n1.op, .int .i64 n1.a, .int .i64 n1.b, .int .i64 n1.n, .int .i64 n2.op, .int .i64 n2.a, .int .i64 n2.b, .int .i64 n2.n] 38), ?_, ⟨_, _, rfl, lit_row (heap_alloc_new w _) rfl rfl, fun h => by cases h⟩, After.rfl.alloc _⟩
  unfold Nd.val
  simp [go_sem]
theorem rowOf4 (n0 n1 n2 n3 : Nd) (w : World) : ∃ v w', (Instr.buildSlice 22 4 #[(0, n0.val), (1, n1.val), (2, n2.val), (3, n3.val)]).run Try.prog w = .ok v w' ∧ isRow [n0, n1, n2, n3] v w' ∧ After w w' := by
  refine ⟨.slice (some ⟨w.heap.size, 0, none⟩) 4 4, w.alloc (.cells #[.int .i64 n0.op, .int .i64 n0.a, .int .i64 n0.b, .int .i64 n0.n, .int .i64 n1.op, .int .i64 n1.a, .int .i64 n1.b, .int .i64 n1.n, .int .i64 n2.op, .int .i64 n2.a, .int .i64 n2.b, .int .i64 n2.n, .int .i64 n3.op, .int .i64 n3.a, .int .i64 n3.b, .int .i64 n3.n] 38), ?_, ⟨_, _, rfl, lit_row (heap_alloc_new w _) rfl rfl, fun h => by cases h⟩, After.rfl.alloc _⟩
  unfold Nd.val
  simp [go_sem]
theorem eqS_yes (x y : Operand) (s : ByteArray) (w : World) : (do eqGuard .eql 9 x y (.string s) (.string s); binOp .eql 9 (.string s) (.string s) : Sem Value).run Try.prog w = .ok (.bool true) w := by
  simp [eqGuard, go_sem]
theorem neS_no (x y : Operand) (s : ByteArray) (w : World) : (do eqGuard .neq 9 x y (.string s) (.string s); binOp .neq 9 (.string s) (.string s) : Sem Value).run Try.prog w = .ok (.bool false) w := by
  simp [eqGuard, go_sem]
theorem neI_no (x y : Operand) (n : Int) (w : World) : (do eqGuard .neq 3 x y (.int .i64 n) (.int .i64 n); binOp .neq 3 (.int .i64 n) (.int .i64 n) : Sem Value).run Try.prog w = .ok (.bool false) w := by
  simp [eqGuard, go_sem]
theorem addI {n m k : Int} (h : n + m = k) (h1 : -9223372036854775808 ≤ k) (h2 : k ≤ 9223372036854775807) (x y : Operand) (w : World) : (do eqGuard .add 3 x y (.int .i64 n) (.int .i64 m); binOp .add 3 (.int .i64 n) (.int .i64 m) : Sem Value).run Try.prog w = .ok (.int .i64 k) w := by
  subst h
  have e : IntKind.i64.wrap (n + m) = n + m := IntWalk.i64_in _ ⟨h1, h2⟩
  simp [eqGuard, go_sem, e]
theorem lenS (t : TypeId) (s : ByteArray) (n : Nat) (h : s.size = n) (ht : Try.prog.underlying t = some .string) (ty : TypeId) (w : World) : (Builtin.len_ #[t] ty #[.string s]).run Try.prog w = .ok (.int .i64 (n : Int)) w := by
  subst h
  simp [Builtin.len_, run_underlying ht, go_sem, goInt, Result.andThen]
theorem lenT (a : Option Addr) (n c : Nat) (ty : TypeId) (w : World) : (Builtin.len_ #[24] ty #[.slice a n c]).run Try.prog w = .ok (.int .i64 (n : Int)) w := by
  simp [Builtin.len_, run_underlying Try.underlying24, go_sem, goInt, Result.andThen]
theorem loadNode {w : World} {g : Nat} {x : Nd} (h0 : w.cell? ⟨g, 0, none⟩ = some (.int .i64 x.op)) (h1 : w.cell? ⟨g, 1, none⟩ = some (.int .i64 x.a)) (h2 : w.cell? ⟨g, 2, none⟩ = some (.int .i64 x.b)) (h3 : w.cell? ⟨g, 3, none⟩ = some (.int .i64 x.n)) : (Instr.loadAt 38 (Ptr g)).run Try.prog w = .ok x.val w := by
  unfold Ptr Nd.val
  simp [go_sem, h0, h1, h2, h3]
theorem loadT {w : World} {g i : Nat} {a : Option Addr} {n c : Nat} (h0 : w.cell? ⟨g, i, none⟩ = some (.slice a n c)) : (Instr.loadAt 24 (.pointer (some ⟨g, i, none⟩))).run Try.prog w = .ok (.slice a n c) w := by
  simp [go_sem, h0]
end Go.Proofs.Ythgmjeljjladhaa
