/-
  New, Step and Push of the document's slow number.
-/
import Derived.Test.YtgapnimicaopcaaGreatIrB
namespace Go.Proofs.YtgapnimicaopcaaGreat.L11
open Go.RowKit
set_option maxRecDepth 8000
set_option maxHeartbeats 1000000 in
theorem refStep_up {p : Nat} (hp : May (p : Int)) {d : Int} (h1 : 0 ≤ d) (h2 : d ≤ 4294967294) (w : World) : Calls Tryz.prog 61 #[.int .i64 (p : Int), .int .i64 d] w fun e w' => e = .returned (.int .i64 (stp p d)) ∧ w' = w := by
  have hm := mul_in (p := p) (d := d) (m := 4294967294) (by have := hp.2; omega) (by omega) (by omega)
  have h0 := Int.mul_nonneg (show (0 : Int) ≤ (p : Int) by omega) h1
  have hs : stp p d = (2 * (p : Int) * d + 1000) / 2000 := by
    unfold stp
    rw [near_k, if_neg (by omega), Int.mul_assoc]
  have hT : 2 * (p : Int) * d = 2 * ((p : Int) * d) := Int.mul_assoc _ _ _
  rw [hs]
  clear hs
  obtain ⟨P, hP⟩ : ∃ P, P = (p : Int) * d := ⟨_, rfl⟩
  rw [← hP] at hT hm h0
  obtain ⟨T, hTT⟩ : ∃ T, T = 2 * (p : Int) * d := ⟨_, rfl⟩
  rw [← hTT] at hT ⊢
  have hT2 : 2 * (p : Int) * d = T := hTT.symm
  have t1 : 0 ≤ T := by omega
  have t2 : T ≤ 8589934588000 := by omega
  have n1 := hp.1
  have n2 := hp.2
  have i1 : ¬ d < 0 := by omega
  clear hp hm h0 hP hTT hT
  go_enter Tryz.func61, Tryz.ntmps61
  go_wp2
  go_ret
  exact ⟨rfl, rfl⟩
set_option maxHeartbeats 1000000 in
theorem refStep_any {p : Nat} (hp : May (p : Int)) {d : Int} (h1 : -4294967294 ≤ d) (h2 : d ≤ 4294967294) (w : World) : Calls Tryz.prog 61 #[.int .i64 (p : Int), .int .i64 d] w fun e w' => e = .returned (.int .i64 (stp p d)) ∧ w' = w := by
  by_cases h : 0 ≤ d
  · exact refStep_up hp h h2 w
  · have hu := stp_in (p := p) (d := -d) (by have := hp.2; omega) (by omega)
    have HS := hideIt (fun W => refStep_up hp (d := -d) (by omega) (by omega) W)
    have e : stp p d = - stp p (-d) := by rw [stp_neg]; omega
    rw [e]
    clear e
    generalize stp p (-d) = D at *
    have i1 : d < 0 := by omega
    clear h hp
    go_enter Tryz.func61, Tryz.ntmps61
    go_wp2_with fail
    refine (HS.out _).mono ?_
    rintro e w' ⟨rfl, rfl⟩
    go_wp2
    go_ret
    exact ⟨rfl, rfl⟩
/-- The document's slow number lies at g. -/
def Rs (w : World) (g N : Nat) (o : Option Int) : Prop := w.heap[g]? = some (.cells #[.int .i64 (N : Int), .bool o.isSome, .int .i64 (o.getD 0)] 128 (0, 0)) ∧ May (N : Int) ∧ ∀ y, o = some y → -2147483647 ≤ y ∧ y ≤ 2147483647
theorem Rs.but {S : Nat → Prop} {w w' : World} {g N : Nat} {o : Option Int} (x : Rs w g N o) (b : But S w w') (hs : ¬ S g) : Rs w' g N o := ⟨(b.block g (blk_lt x.1) hs).trans x.1, x.2⟩
theorem Rs.lt {w : World} {g N : Nat} {o : Option Int} (x : Rs w g N o) : g < w.heap.size := blk_lt x.1
theorem rsNew_ok (w : World) (n : Int) (h : May n) : Calls Tryz.prog 36 #[.int .i64 n] w fun e w' => e = .returned (.tuple #[Ptr w.heap.size, .int .i64 0]) ∧ w' = w.alloc (.cells #[.int .i64 n, .bool false, .int .i64 0] 128) := by
  obtain ⟨h1, h2⟩ := h
  go_enter Tryz.func36, Tryz.ntmps36
  go_wp2
  go_ret2
  exact ⟨rfl, rfl⟩
theorem rsNew_no (w : World) (n : Int) (h : ¬ May n) : Calls Tryz.prog 36 #[.int .i64 n] w fun e w' => e = .returned (.tuple #[.pointer none, .int .i64 2]) ∧ w' = w := by
  rcases (by unfold May at h; omega : n < 1 ∨ (¬ n < 1 ∧ 1000 < n)) with h1 | ⟨h1, h2⟩
  all_goals
    clear h
    go_enter Tryz.func36, Tryz.ntmps36
    go_wp2
    go_ret2
    exact ⟨rfl, rfl⟩
theorem rsPush_nil (w : World) (y : Int) : Calls Tryz.prog 47 #[.pointer none, .int .i64 y] w fun e w' => e = .returned (.tuple #[.int .i64 0, .int .i64 1]) ∧ w' = w := by
  go_enter Tryz.func47, Tryz.ntmps47
  go_wp2
  go_ret2
  exact ⟨rfl, rfl⟩
theorem three_at {w : World} {g : Nat} {T : TypeId} {x y z : Value} (h : w.heap[g]? = some (.cells #[x, y, z] T (0, 0))) :
    g < w.heap.size ∧ w.cell? ⟨g, 0, none⟩ = some x ∧ w.cell? ⟨g, 1, none⟩ = some y ∧ w.cell? ⟨g, 2, none⟩ = some z ∧ w.frozen? ⟨g, 0, none⟩ = false ∧ w.frozen? ⟨g, 1, none⟩ = false ∧ w.frozen? ⟨g, 2, none⟩ = false := by
  refine ⟨(Array.getElem?_eq_some_iff.1 h).1, ?_, ?_, ?_, ?_, ?_, ?_⟩
  · simp [World.cell?, h]
  · simp [World.cell?, h]
  · simp [World.cell?, h]
  · simp [World.frozen?, h]
  · simp [World.frozen?, h]
  · simp [World.frozen?, h]
/-- A call of two that leaves the world as it was, at a step of a region that draws its order. -/
theorem step_two {ops : Array Oper} {o : Oper} {a : Act} {w : World} {K : Act → World → Prop} {Q : Exit → Act → World → Prop} {E : Prop} {f : Nat} {x y : Operand} {ts : Array Nat} {u z v : Value} (hgd : o.guard = none) (ho : o.op = .call { callee := .value (.func f), args := #[x, y], argTypes := ts }) (hx : a.eval x = u) (hy : a.eval y = z) (hf : ∀ args W, (callFunc f args).run Tryz.prog W = .ok (.enter f args) W) (hc : Calls Tryz.prog f #[u, z] w fun e w' => e = .returned v ∧ w' = w) (h : K (a.put o.dst v) w) :
    if Region.wanted o (yielded ops a.tmps) = true then Oper.wp Tryz.prog o a w K Q else E := by
  have hw : Region.wanted o (yielded ops a.tmps) = true := by simp [Region.wanted, hgd]
  rw [if_pos hw]
  unfold Oper.wp execOp
  have e : a.eval (.func f) = .func (.func f) #[] #[] := rfl
  simp [ho, resolve, e, Deferred.ofValue, invoke, hf, Oper.upon, hx, hy]
  refine Calls.mono hc ?_
  rintro e w' ⟨rfl, rfl⟩
  exact h
set_option maxHeartbeats 2000000 in
theorem rsPush_next {w : World} {g N : Nat} {y : Int} (x : Rs w g N (some y)) (v : Int) : Calls Tryz.prog 47 #[Ptr g, .int .i64 v] w fun e w' => e = .returned (.tuple #[.int .i64 (nx N y (clampZ v)), .int .i64 0]) ∧ w' = (w.setCell ⟨g, 2, none⟩ (.int .i64 (nx N y (clampZ v)))).drew := by
  have HC := hideIt (fun W => refClamp_any v W)
  have hf := clampZ_le v
  generalize clampZ v = c at *
  have hy := x.2.2 y rfl
  have hn := nx_fit (p := N) (by have := x.2.1.2; omega) hy hf
  obtain ⟨l, c0, c1, c2, f0, f1, f2⟩ := three_at x.1
  have hs : y + stp N (c - y) = nx N y c := rfl
  generalize nx N y c = M at *
  have hp := fun W => refStep_any x.2.1 (d := c - y) (by omega) (by omega) W
  generalize stp N (c - y) = D at *
  rw [← show IntKind.i64.wrap (c - y) = c - y from IntWalk.i64_in _ (by omega)] at hp
  have HP := hideIt hp
  have HE := hideIt (enter_of Tryz.func61 (by kernel_rfl) (by kernel_rfl))
  have hN : ¬ (N : Int) = 0 := by have := x.2.1.1; omega
  have hb : ((N : Int) == 0) = false := by simpa using hN
  have hd : -4294967294 ≤ D ∧ D ≤ 4294967294 := by omega
  simp only [Option.isSome_some, Option.getD_some] at c1 c2
  clear hp x hN
  go_enter Tryz.func47, Tryz.ntmps47
  go_wp2_with fail
  refine (HC.out _).mono ?_
  rintro e w' ⟨rfl, rfl⟩
  go_wp2_with fail
  go_region_law (refine step_two (by rfl) (by rfl) (by rfl) (by rfl) HE.out (HP.out _) ?_)
  all_goals
    rw [show IntKind.i64.wrap M = M from IntWalk.i64_in _ (by omega)]
    go_wp2
    go_ret2
    exact ⟨rfl, rfl⟩
set_option maxHeartbeats 2000000 in
theorem rsPush_first {w : World} {g N : Nat} (x : Rs w g N none) (v : Int) : Calls Tryz.prog 47 #[Ptr g, .int .i64 v] w fun e w' => e = .returned (.tuple #[.int .i64 (clampZ v), .int .i64 0]) ∧ w' = (((w.setCell ⟨g, 1, none⟩ (.bool true)).setCell ⟨g, 2, none⟩ (.int .i64 (clampZ v))).setCell ⟨g, 2, none⟩ (.int .i64 (clampZ v))).drew := by
  have HC := hideIt (fun W => refClamp_any v W)
  have hf := clampZ_le v
  generalize clampZ v = c at *
  obtain ⟨l, c0, c1, c2, f0, f1, f2⟩ := three_at x.1
  have hp := fun W => refStep_any x.2.1 (d := 0) (by omega) (by omega) W
  rw [stp_zero] at hp
  have HP := hideIt hp
  have HE := hideIt (enter_of Tryz.func61 (by kernel_rfl) (by kernel_rfl))
  have hN : ¬ (N : Int) = 0 := by have := x.2.1.1; omega
  have hb : ((N : Int) == 0) = false := by simpa using hN
  simp only [Option.isSome_none, Option.getD_none] at c1 c2
  have HX := hideIt x.1
  clear hp x hN
  go_enter Tryz.func47, Tryz.ntmps47
  go_wp2_with fail
  refine (HC.out _).mono ?_
  rintro e w' ⟨rfl, rfl⟩
  go_wp2_with fail
  go_region_law (refine step_two (by rfl) (by rfl) (by rfl) (by rfl) HE.out (HP.out _) ?_)
  all_goals
    rw [show IntKind.i64.wrap c = c from IntWalk.i64_in _ (by omega)]
    obtain ⟨W, hW⟩ : ∃ W, W = (((w'.setCell ⟨g, 1, none⟩ (.bool true)).setCell ⟨g, 2, none⟩ (.int .i64 c)).setCell ⟨g, 2, none⟩ (.int .i64 c)).drew := ⟨_, rfl⟩
    rw [← hW]
    have hc : W.cell? ⟨g, 2, none⟩ = some (.int .i64 c) := by
      rw [hW]
      exact blk_cell (blk_put (blk_put (blk_put HX.out 1 (.bool true)) 2 (.int .i64 c)) 2 (.int .i64 c)) rfl
    have HW := hideIt hW
    clear hW
    go_wp2
    go_ret2
    exact ⟨rfl, HW.out⟩
theorem rsPush_any {w : World} {g N : Nat} {o : Option Int} (x : Rs w g N o) (v : Int) : Calls Tryz.prog 47 #[Ptr g, .int .i64 v] w fun e w' => e = .returned (.tuple #[.int .i64 (nxo N o (clampZ v)), .int .i64 0]) ∧ Rs w' g N (some (nxo N o (clampZ v))) ∧ But (One g) w w' ∧ w'.heap.size = w.heap.size := by
  cases o with
  | none =>
    refine (rsPush_first x v).mono ?_
    rintro e w' ⟨rfl, rfl⟩
    refine ⟨rfl, ⟨?_, x.2.1, fun y h => by cases h; exact clampZ_le v⟩, (((but_one w g 1 _).trans (but_one _ g 2 _)).trans (but_one _ g 2 _)).drew, by simp [World.setCell, World.drew]⟩
    exact blk_put (blk_put (blk_put x.1 1 (.bool true)) 2 (.int .i64 (clampZ v))) 2 (.int .i64 (clampZ v))
  | some y =>
    refine (rsPush_next x v).mono ?_
    rintro e w' ⟨rfl, rfl⟩
    refine ⟨rfl, ⟨?_, x.2.1, fun z h => by cases h; exact nx_fit (by have := x.2.1.2; omega) (x.2.2 y rfl) (clampZ_le v)⟩, (but_one w g 2 _).drew, by simp [World.setCell, World.drew]⟩
    exact blk_put x.1 2 (.int .i64 (nx N y (clampZ v)))
end Go.Proofs.YtgapnimicaopcaaGreat.L11
