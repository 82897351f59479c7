/-
  Plans that are written out: what a slot holds, by words that new memory keeps; single operations, of whatever frame.
-/
import Derived.Test.YtkjjjibglaffnaaSloN
import Derived.Test.YtkjjjibglaffnaaRxJ
namespace Go.Proofs.Ytkjjjibglaffnaa
open Go.RowKit
set_option maxRecDepth 8000
section
variable {o : Oper} {a : Act} {w w' : World} {K : Act → World → Prop} {Q : Exit → Act → World → Prop}
theorem wp_val {r : Sem Value} {v : Value} (he : (execOp a.eval o) = (do pure (.value (← r)))) (hr : r.run Try.prog w = .ok v w') (h : K (a.put o.dst v) w') : Oper.wp Try.prog o a w K Q := by
  unfold Oper.wp
  rw [he]
  simp [hr, Oper.upon]
  exact h
theorem wp_move {x : Operand} {v : Value} (ho : o.op = .move x ∨ o.op = .assign x) (hx : a.eval x = v) (h : K (a.put o.dst v) w) : Oper.wp Try.prog o a w K Q := by
  unfold Oper.wp execOp
  rcases ho with ho | ho
  all_goals
    simp only [ho, hx]
    exact h
theorem wp_func0 {f : Nat} {ts : Array Nat} (ho : o.op = .call { callee := .value (.func f), args := #[], argTypes := ts }) (hf : ∀ args W, (callFunc f args).run Try.prog W = .ok (.enter f args) W) (h : Calls Try.prog f #[] w fun e w' => ∃ v, e = .returned v ∧ K (a.put o.dst v) w') : Oper.wp Try.prog o a w K Q := by
  unfold Oper.wp execOp
  have e : a.eval (.func f) = .func (.func f) #[] #[] := rfl
  simp [ho, resolve, e, Deferred.ofValue, invoke, hf, Oper.upon]
  refine Calls.mono h ?_
  rintro e w' ⟨v, rfl, hk⟩
  exact hk
theorem wp_buildN {t : Nat} {xs : Array (Nat × Operand)} {us : Array (Nat × Value)} {v : Value} (ho : o.op = .build t xs) (hx : (xs.map fun (i, x) => (i, a.eval x)) = us) (hr : (Instr.build t us).run Try.prog w = .ok v w') (h : K (a.put o.dst v) w') : Oper.wp Try.prog o a w K Q := by
  refine wp_val (r := Instr.build t us) ?_ hr h
  unfold execOp
  simp only [ho, hx]
theorem wp_sliceN {t m : Nat} {xs : Array (Nat × Operand)} {us : Array (Nat × Value)} {v : Value} (ho : o.op = .buildSlice t m xs) (hx : (xs.map fun (i, x) => (i, a.eval x)) = us) (hr : (Instr.buildSlice t m us).run Try.prog w = .ok v w') (h : K (a.put o.dst v) w') : Oper.wp Try.prog o a w K Q := by
  refine wp_val (r := Instr.buildSlice t m us) ?_ hr h
  unfold execOp
  simp only [ho, hx]
theorem wp_makeS {t : Nat} {p q v : Value} (ho : o.op = .makeSlice t (.const p) (.const q)) (hr : (Instr.makeSlice t p q).run Try.prog w = .ok v w') (h : K (a.put o.dst v) w') : Oper.wp Try.prog o a w K Q := by
  refine wp_val (r := Instr.makeSlice t p q) ?_ hr h
  unfold execOp
  simp [ho]
  rfl
theorem wp_cutTo {t : Nat} {x y : Operand} {p q v : Value} (ho : o.op = .slice t x Option.none (some y) Option.none) (hx : a.eval x = p) (hy : a.eval y = q) (hr : (Instr.sliceAt t p Option.none (some q) Option.none).run Try.prog w = .ok v w) (h : K (a.put o.dst v) w) : Oper.wp Try.prog o a w K Q := by
  refine wp_val (r := Instr.sliceAt t p Option.none (some q) Option.none) ?_ hr h
  unfold execOp
  simp [ho, hx, hy]
end
def isV (u : Value) : Wd := fun v _ => v = u
theorem isV_st (u : Value) : (isV u).Stable := fun _ _ _ h _ => h
theorem stable_all {Ts : List Wd} (h : ∀ P ∈ Ts, Wd.Stable P) : ∀ i, (wdAt Ts i).Stable := by
  intro i
  unfold wdAt
  rcases hi : Ts[i]? with _ | P
  · have e : Ts.getD i (fun _ _ => True) = fun _ _ => True := by simp [List.getD, hi]
    rw [e]
    exact fun _ _ _ _ _ => trivial
  · have e : Ts.getD i (fun _ _ => True) = P := by simp [List.getD, hi]
    rw [e]
    exact h P (List.mem_of_getElem? hi)
theorem st_nil : ∀ P ∈ ([] : List Wd), Wd.Stable P := fun P h => by cases h
theorem st_cons {P : Wd} {Ts : List Wd} (h : P.Stable) (k : ∀ P ∈ Ts, Wd.Stable P) : ∀ R ∈ P :: Ts, Wd.Stable R := fun R hR => by
  rcases List.mem_cons.1 hR with rfl | hR
  · exact h
  · exact k R hR
/-- Ints in a list; lists of ints; pairs; a plan. -/
def isI : Wd := fun v w => ∃ f : Fw, v = .slice f.a f.l.length f.c ∧ GRow inE w f.a f.l.length f.l ∧ (f.a = none → f.l.length = 0 ∧ f.c = 0) ∧ f.l.length ≤ 1048576
def isF : Wd := fun v w => ∃ (a : Option Addr) (c : Nat) (fs : List Fw), v = .slice a fs.length c ∧ GRow fwE w a fs.length fs ∧ (∀ f ∈ fs, GRow inE w f.a f.l.length f.l ∧ (f.a = none → f.l.length = 0 ∧ f.c = 0) ∧ f.l.length ≤ 1048576) ∧ fs.length ≤ 1048576
def isL : Wd := fun v w => ∃ (a : Option Addr) (c : Nat) (lk : List (Int × Int)), v = .slice a lk.length c ∧ GRow prE w a lk.length lk ∧ (a = none → lk.length = 0 ∧ c = 0) ∧ lk.length ≤ 1048576
def isP : Wd := fun v w => ∃ p : Pl, v = .agg p.cs ∧ p.Fits w 1048576
theorem isI_st : isI.Stable := fun _ _ _ ⟨f, e, h1, h2⟩ b => ⟨f, e, h1.after b, h2⟩
theorem isF_st : isF.Stable := fun _ _ _ ⟨a, c, fs, e, h1, h2, h3⟩ b => ⟨a, c, fs, e, h1.after b, fun f hf => ⟨(h2 f hf).1.after b, (h2 f hf).2⟩, h3⟩
theorem isL_st : isL.Stable := fun _ _ _ ⟨a, c, lk, e, h1, h2⟩ b => ⟨a, c, lk, e, h1.after b, h2⟩
theorem isP_st : isP.Stable := fun _ _ _ ⟨p, e, h⟩ b => ⟨p, e, h.after b⟩
theorem nilI (w : World) : isI (.slice none 0 0) w := ⟨⟨none, 0, []⟩, rfl, GRow.nil _ _ _, fun _ => ⟨rfl, rfl⟩, Nat.zero_le _⟩
theorem nilF (w : World) : isF (.slice none 0 0) w := ⟨none, 0, [], rfl, GRow.nil _ _ _, fun f hf => (by cases hf), Nat.zero_le _⟩
theorem nilL (w : World) : isL (.slice none 0 0) w := ⟨none, 0, [], rfl, GRow.nil _ _ _, fun _ => ⟨rfl, rfl⟩, Nat.zero_le _⟩
theorem isP_of {v0 v1 v2 : Value} {w : World} (h0 : isF v0 w) (h1 : isI v1 w) (h2 : isL v2 w) : isP (.agg #[v0, v1, v2]) w := by
  obtain ⟨fa, fc, fs, rfl, r0, q0, n0⟩ := h0
  obtain ⟨f, rfl, r1, q1, n1⟩ := h1
  obtain ⟨la, lc, lk, rfl, r2, q2, n2⟩ := h2
  exact ⟨⟨fa, fc, fs, f.a, f.c, f.l, la, lc, lk⟩, rfl, r0, q0, r1, q1, r2, n0, n1, n2, q2⟩
theorem one_f {v : Value} {w : World} (h : isF v w) : ∃ a n c, v = .slice a n c := by
  obtain ⟨a, c, fs, e, _⟩ := h
  exact ⟨a, _, c, e⟩
theorem one_i {v : Value} {w : World} (h : isI v w) : ∃ a n c, v = .slice a n c := by
  obtain ⟨f, e, _⟩ := h
  exact ⟨f.a, _, f.c, e⟩
theorem one_l {v : Value} {w : World} (h : isL v w) : ∃ a n c, v = .slice a n c := by
  obtain ⟨a, c, fs, e, _⟩ := h
  exact ⟨a, _, c, e⟩
theorem bI1 (x : Int) (w : World) : ∃ v w', (Instr.buildSlice 23 1 #[(0, .int .i64 x)]).run Try.prog w = .ok v w' ∧ isI v w' ∧ After w w' := by
  refine ⟨.slice (some ⟨w.heap.size, 0, none⟩) 1 1, w.alloc (.cells #[.int .i64 x] 3), by simp [go_sem], ⟨⟨some ⟨w.heap.size, 0, none⟩, 1, [x]⟩, rfl, lit_row (heap_alloc_new w _) rfl rfl, (fun h => by cases h), Nat.le_of_ble_eq_true rfl⟩, After.rfl.alloc _⟩
theorem bI2 (x y : Int) (w : World) : ∃ v w', (Instr.buildSlice 23 2 #[(0, .int .i64 x), (1, .int .i64 y)]).run Try.prog w = .ok v w' ∧ isI v w' ∧ After w w' := by
  refine ⟨.slice (some ⟨w.heap.size, 0, none⟩) 2 2, w.alloc (.cells #[.int .i64 x, .int .i64 y] 3), by simp [go_sem], ⟨⟨some ⟨w.heap.size, 0, none⟩, 2, [x, y]⟩, rfl, lit_row (heap_alloc_new w _) rfl rfl, (fun h => by cases h), Nat.le_of_ble_eq_true rfl⟩, After.rfl.alloc _⟩
theorem bF1 {v0 : Value} {w : World} (h : isI v0 w) : ∃ v w', (Instr.buildSlice 22 1 #[(0, v0)]).run Try.prog w = .ok v w' ∧ isF v w' ∧ After w w' := by
  obtain ⟨f, rfl, r, n, l⟩ := h
  have a := After.rfl (w := w) |>.alloc (.cells #[.slice f.a f.l.length f.c] 23)
  refine ⟨.slice (some ⟨w.heap.size, 0, none⟩) 1 1, w.alloc (.cells #[.slice f.a f.l.length f.c] 23), by simp [go_sem], ⟨some ⟨w.heap.size, 0, none⟩, 1, [f], rfl, lit_row (heap_alloc_new w _) rfl rfl, fun g hg => ?_, Nat.le_of_ble_eq_true rfl⟩, a⟩
  obtain rfl := List.mem_singleton.1 hg
  exact ⟨r.after a, n, l⟩
theorem bF2 {v0 v1 : Value} {w : World} (h : isI v0 w) (h1 : isI v1 w) : ∃ v w', (Instr.buildSlice 22 2 #[(0, v0), (1, v1)]).run Try.prog w = .ok v w' ∧ isF v w' ∧ After w w' := by
  obtain ⟨f, rfl, r, n, l⟩ := h
  obtain ⟨f1, rfl, r1, n1, l1⟩ := h1
  have a := After.rfl (w := w) |>.alloc (.cells #[.slice f.a f.l.length f.c, .slice f1.a f1.l.length f1.c] 23)
  refine ⟨.slice (some ⟨w.heap.size, 0, none⟩) 2 2, w.alloc (.cells #[.slice f.a f.l.length f.c, .slice f1.a f1.l.length f1.c] 23), by simp [go_sem], ⟨some ⟨w.heap.size, 0, none⟩, 2, [f, f1], rfl, lit_row (heap_alloc_new w _) rfl rfl, fun g hg => ?_, Nat.le_of_ble_eq_true rfl⟩, a⟩
  simp only [List.mem_cons, List.not_mem_nil, or_false] at hg
  rcases hg with rfl | rfl
  · exact ⟨r.after a, n, l⟩
  · exact ⟨r1.after a, n1, l1⟩
theorem bQ (x y : Int) (w : World) : (Instr.build 65 #[(0, .int .i64 x), (1, .int .i64 y)]).run Try.prog w = .ok (.agg #[.int .i64 x, .int .i64 y]) w := by
  simp [go_sem]
theorem bL1 (x y : Int) (w : World) : ∃ v w', (Instr.buildSlice 24 1 #[(0, .agg #[.int .i64 x, .int .i64 y])]).run Try.prog w = .ok v w' ∧ isL v w' ∧ After w w' := by
  refine ⟨.slice (some ⟨w.heap.size, 0, none⟩) 1 1, w.alloc (.cells #[.int .i64 x, .int .i64 y] 65), by simp [go_sem], ⟨some ⟨w.heap.size, 0, none⟩, 1, [(x, y)], rfl, lit_row (heap_alloc_new w _) rfl rfl, (fun h => by cases h), Nat.le_of_ble_eq_true rfl⟩, After.rfl.alloc _⟩
theorem bP0 (w : World) : (Instr.build 26 #[]).run Try.prog w = .ok (.agg #[.slice none 0 0, .slice none 0 0, .slice none 0 0]) w := by
  simp [go_sem]
theorem bP1 {v0 : Value} {w : World} (h0 : isF v0 w) : (Instr.build 26 #[(0, v0)]).run Try.prog w = .ok (.agg #[v0, .slice none 0 0, .slice none 0 0]) w := by
  obtain ⟨a, n, c, rfl⟩ := one_f h0
  simp [go_sem]
theorem bP2 {v0 v1 : Value} {w : World} (h0 : isF v0 w) (h1 : isI v1 w) : (Instr.build 26 #[(0, v0), (1, v1)]).run Try.prog w = .ok (.agg #[v0, v1, .slice none 0 0]) w := by
  obtain ⟨a, n, c, rfl⟩ := one_f h0
  obtain ⟨a1, n1, c1, rfl⟩ := one_i h1
  simp [go_sem]
theorem bP3 {v0 v1 v2 : Value} {w : World} (h0 : isF v0 w) (h1 : isI v1 w) (h2 : isL v2 w) : (Instr.build 26 #[(0, v0), (1, v1), (2, v2)]).run Try.prog w = .ok (.agg #[v0, v1, v2]) w := by
  obtain ⟨a, n, c, rfl⟩ := one_f h0
  obtain ⟨a1, n1, c1, rfl⟩ := one_i h1
  obtain ⟨a2, n2, c2, rfl⟩ := one_l h2
  simp [go_sem]
def n9 : Array Value := Array.replicate 9 (.int .i64 0)
def f17 : Array Value := Array.replicate 17 (.slice none 0 0)
def f16 : Array Value := Array.replicate 16 (.slice none 0 0)
def l17 : Array Value := Array.replicate 34 (.int .i64 0)
def l16 : Array Value := Array.replicate 32 (.int .i64 0)
theorem make9 (w : World) : (Instr.makeSlice 23 (.int .i64 9) (.int .i64 9)).run Try.prog w = .ok (.slice (some ⟨w.heap.size, 0, none⟩) 9 9) (w.alloc (.cells n9 3)) := by kernel_rfl
theorem makeF17 (w : World) : (Instr.makeSlice 22 (.int .i64 17) (.int .i64 17)).run Try.prog w = .ok (.slice (some ⟨w.heap.size, 0, none⟩) 17 17) (w.alloc (.cells f17 23)) := by kernel_rfl
theorem makeF16 (w : World) : (Instr.makeSlice 22 (.int .i64 16) (.int .i64 16)).run Try.prog w = .ok (.slice (some ⟨w.heap.size, 0, none⟩) 16 16) (w.alloc (.cells f16 23)) := by kernel_rfl
theorem makeL17 (w : World) : (Instr.makeSlice 24 (.int .i64 17) (.int .i64 17)).run Try.prog w = .ok (.slice (some ⟨w.heap.size, 0, none⟩) 17 17) (w.alloc (.cells l17 65)) := by kernel_rfl
theorem makeL16 (w : World) : (Instr.makeSlice 24 (.int .i64 16) (.int .i64 16)).run Try.prog w = .ok (.slice (some ⟨w.heap.size, 0, none⟩) 16 16) (w.alloc (.cells l16 65)) := by kernel_rfl
theorem mF17 (w : World) : ∃ v w', (Instr.makeSlice 22 (.int .i64 17) (.int .i64 17)).run Try.prog w = .ok v w' ∧ isF v w' ∧ After w w' :=
  ⟨_, _, makeF17 w, ⟨_, 17, List.replicate 17 ⟨none, 0, []⟩, rfl, lit_row (heap_alloc_new w _) rfl rfl, fun f hf => by
    obtain rfl := List.eq_of_mem_replicate hf
    exact ⟨GRow.nil _ _ _, fun _ => ⟨rfl, rfl⟩, Nat.zero_le _⟩, by decide⟩, After.rfl.alloc _⟩
theorem mF16 (w : World) : ∃ v w', (Instr.makeSlice 22 (.int .i64 16) (.int .i64 16)).run Try.prog w = .ok v w' ∧ isF v w' ∧ After w w' :=
  ⟨_, _, makeF16 w, ⟨_, 16, List.replicate 16 ⟨none, 0, []⟩, rfl, lit_row (heap_alloc_new w _) rfl rfl, fun f hf => by
    obtain rfl := List.eq_of_mem_replicate hf
    exact ⟨GRow.nil _ _ _, fun _ => ⟨rfl, rfl⟩, Nat.zero_le _⟩, by decide⟩, After.rfl.alloc _⟩
theorem mL17 (w : World) : ∃ v w', (Instr.makeSlice 24 (.int .i64 17) (.int .i64 17)).run Try.prog w = .ok v w' ∧ isL v w' ∧ After w w' :=
  ⟨_, _, makeL17 w, ⟨_, 17, List.replicate 17 (0, 0), rfl, lit_row (heap_alloc_new w _) rfl rfl, (fun h => by cases h), by decide⟩, After.rfl.alloc _⟩
theorem mL16 (w : World) : ∃ v w', (Instr.makeSlice 24 (.int .i64 16) (.int .i64 16)).run Try.prog w = .ok v w' ∧ isL v w' ∧ After w w' :=
  ⟨_, _, makeL16 w, ⟨_, 16, List.replicate 16 (0, 0), rfl, lit_row (heap_alloc_new w _) rfl rfl, (fun h => by cases h), by decide⟩, After.rfl.alloc _⟩
/-- Nine zeros, from the front. -/
def Nine (w : World) (g : Nat) : Prop := w.heap[g]? = some (.cells n9 3 (0, 0))
theorem Nine.after {w w' : World} {g : Nat} (h : Nine w g) (a : After w w') : Nine w' g := (a.block g (blk_lt h) (fun t => t)).trans h
theorem Nine.i {w : World} {g k : Nat} (h : Nine w g) (hk : k ≤ 9) : isI (.slice (some ⟨g, 0, none⟩) k 9) w := by
  have r : GRow inE w (some ⟨g, 0, none⟩) 9 (List.replicate 9 0) := lit_row h rfl rfl
  have r2 := r.take hk
  have e : ((List.replicate 9 (0 : Int)).take k).length = k := by rw [List.length_take, List.length_replicate]; omega
  refine ⟨⟨some ⟨g, 0, none⟩, 9, (List.replicate 9 0).take k⟩, by dsimp only; rw [e], by dsimp only; rw [e]; exact r2, (fun h => by cases h), by dsimp only; rw [e]; omega⟩
theorem cut9 (w : World) (g : Nat) : (Instr.sliceAt 23 (.slice (some ⟨g, 0, none⟩) 9 9) none (some (.int .i64 8)) none).run Try.prog w = .ok (.slice (some ⟨g, 0, none⟩) 8 9) w := by
  simp [go_sem]
theorem cut9a (w : World) (g : Nat) : (Instr.sliceAt 23 (.slice (some ⟨g, 0, none⟩) 9 9) none (some (.int .i64 1)) none).run Try.prog w = .ok (.slice (some ⟨g, 0, none⟩) 1 9) w := by
  simp [go_sem]
def plE : Enc Pl where
  k := 3
  enc p := [.slice p.fa p.fs.length p.fc, .slice p.sa p.st.length p.sc, .slice p.la p.lk.length p.lc]
  len _ := rfl
  one x u hu := by
    simp only [List.mem_cons, List.not_mem_nil, or_false] at hu
    rcases hu with rfl | rfl | rfl <;> rfl
  pos := by decide
/-- Sixteen plans in a row. -/
def isPs : Wd := fun v w => ∃ (g : Nat) (ps : List Pl), v = .slice (some ⟨g, 0, none⟩) 16 16 ∧ GRow plE w (some ⟨g, 0, none⟩) 16 ps ∧ ∀ p ∈ ps, p.Fits w 1048576
theorem isPs_st : isPs.Stable := fun _ _ _ ⟨g, ps, e, h1, h2⟩ b => ⟨g, ps, e, h1.after b, fun p hp => (h2 p hp).after b⟩
set_option maxHeartbeats 2000000 in
theorem bPs {v0 v1 v2 v3 v4 v5 v6 v7 v8 v9 v10 v11 v12 v13 v14 v15 : Value} {w : World} (h0 : isP v0 w) (h1 : isP v1 w) (h2 : isP v2 w) (h3 : isP v3 w) (h4 : isP v4 w) (h5 : isP v5 w) (h6 : isP v6 w) (h7 : isP v7 w) (h8 : isP v8 w) (h9 : isP v9 w) (h10 : isP v10 w) (h11 : isP v11 w) (h12 : isP v12 w) (h13 : isP v13 w) (h14 : isP v14 w) (h15 : isP v15 w) :
    ∃ v w', (Instr.buildSlice 79 16 #[(0, v0), (1, v1), (2, v2), (3, v3), (4, v4), (5, v5), (6, v6), (7, v7), (8, v8), (9, v9), (10, v10), (11, v11), (12, v12), (13, v13), (14, v14), (15, v15)]).run Try.prog w = .ok v w' ∧ isPs v w' ∧ After w w' := by
  obtain ⟨p0, rfl, f0⟩ := h0
  obtain ⟨p1, rfl, f1⟩ := h1
  obtain ⟨p2, rfl, f2⟩ := h2
  obtain ⟨p3, rfl, f3⟩ := h3
  obtain ⟨p4, rfl, f4⟩ := h4
  obtain ⟨p5, rfl, f5⟩ := h5
  obtain ⟨p6, rfl, f6⟩ := h6
  obtain ⟨p7, rfl, f7⟩ := h7
  obtain ⟨p8, rfl, f8⟩ := h8
  obtain ⟨p9, rfl, f9⟩ := h9
  obtain ⟨p10, rfl, f10⟩ := h10
  obtain ⟨p11, rfl, f11⟩ := h11
  obtain ⟨p12, rfl, f12⟩ := h12
  obtain ⟨p13, rfl, f13⟩ := h13
  obtain ⟨p14, rfl, f14⟩ := h14
  obtain ⟨p15, rfl, f15⟩ := h15
  obtain ⟨ps, hps⟩ : ∃ ps, ps = [p0, p1, p2, p3, p4, p5, p6, p7, p8, p9, p10, p11, p12, p13, p14, p15] := ⟨_, rfl⟩
  have hall : ∀ p ∈ ps, p.Fits w 1048576 := fun p hp => by
    rw [hps] at hp
    simp only [List.mem_cons, List.not_mem_nil, or_false] at hp
    rcases hp with rfl | rfl | rfl | rfl | rfl | rfl | rfl | rfl | rfl | rfl | rfl | rfl | rfl | rfl | rfl | rfl <;> assumption
  have a := After.rfl (w := w) |>.alloc (.cells (plE.flat ps).toArray 26)
  refine ⟨.slice (some ⟨w.heap.size, 0, none⟩) 16 16, w.alloc (.cells (plE.flat ps).toArray 26), ?_, ⟨_, ps, rfl, lit_row (heap_alloc_new w _) rfl (by rw [hps]; rfl), fun p hp => (hall p hp).after a⟩, a⟩
  rw [hps]
  simp [go_sem, Enc.flat, plE]
end Go.Proofs.Ytkjjjibglaffnaa
