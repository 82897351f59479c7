/-
  The document's alarm: quiet, Ack, Pause, Now; of what is none, too.
-/
import Derived.Test.YthggkpmhcdmalaaAlRa
import Derived.Deep.Cut
namespace Go.Proofs.Ythggkpmhcdmalaa
open Go.RowKit
set_option maxRecDepth 8000
theorem pr_no {s : Sp} (h : s.May) : (s.pr == 0) = false := by
  have := h.1
  simp
  omega
theorem refQuiet_any {w : World} {p : Nat} {s : Sp} {x : As} (h : Rl w p s x) : Calls Try.prog 39 #[Ptr p] w fun e w' => (∃ v, e = .returned v) ∧ Rl w' p s { x with ph := 0, pr := 0, si := 0 } ∧ But (One p) w w' := by
  have hA : ∀ w', w' = ((w.setCell ⟨p, 3, none⟩ (.int .i64 0)).setCell ⟨p, 4, none⟩ (.int .i64 0)).setCell ⟨p, 5, none⟩ (.int .i64 0) → Rl w' p s { x with ph := 0, pr := 0, si := 0 } ∧ But (One p) w w' := by
    intro w' e
    subst e
    exact ⟨⟨blk_put (blk_put (blk_put h.at0 3 _) 4 _) 5 _, h.may, ⟨h.st.1, h.st.2.1, .inl ⟨rfl, rfl, rfl⟩⟩⟩, ((but_one w p 3 _).trans (but_one _ p 4 _)).trans (but_one _ p 5 _)⟩
  have HA := hideIt hA
  obtain ⟨-, -, -, c3, c4, c5, -, f3, f4, f5, -⟩ := cells_of h.at0
  clear h hA
  go_enter Try.func39, Try.ntmps39
  go_wp2
  first | go_end0 | refine bodyPost_ret (results_none rfl _ _ _) rfl ?_
  exact ⟨⟨_, rfl⟩, HA.out _ rfl⟩
theorem refAck_any {w : World} {p : Nat} {s : Sp} {x : As} (h : Rl w p s x) : Calls Try.prog 29 #[Ptr p] w fun e w' => e = .returned (.int .i64 (akE x)) ∧ Rl w' p s (akS x) ∧ But (One p) w w' := by
  have hst := ak_stands h.st
  have HX := hideIt h
  have hp0 := pr_no h.may
  obtain ⟨c0, -, -, c3, -, c5, -, f3, -, f5, -⟩ := cells_of h.at0
  by_cases e1 : x.ph = 1
  · have q1 : akE x = 0 := by unfold akE; rw [if_pos e1]
    have q2 : akS x = { x with ph := 2, si := 0 } := by unfold akS; rw [if_pos e1]
    rw [q2] at hst ⊢
    rw [q1]
    have hA : ∀ w', w' = (w.setCell ⟨p, 3, none⟩ (.int .i64 2)).setCell ⟨p, 5, none⟩ (.int .i64 0) → Rl w' p s { x with ph := 2, si := 0 } ∧ But (One p) w w' := by
      intro w' e
      subst e
      exact ⟨⟨blk_put (blk_put HX.out.at0 3 _) 5 _, HX.out.may, hst⟩, (but_one w p 3 _).trans (but_one _ p 5 _)⟩
    have HA := hideIt hA
    rw [e1] at c3
    clear h hst q1 q2 hA e1
    go_enter Try.func29, Try.ntmps29
    go_wp2
    go_ret
    exact ⟨rfl, HA.out _ rfl⟩
  · by_cases e3 : x.ph = 3
    · have q1 : akE x = 0 := by unfold akE; rw [if_neg e1, if_pos e3]
      have q2 : akS x = { x with ph := 0, pr := 0, si := 0 } := by unfold akS; rw [if_neg e1, if_pos e3]
      rw [q2] at hst ⊢
      rw [q1]
      have HF := hideIt (refQuiet_any h)
      rw [e3] at c3
      clear h hst q1 q2 e1 e3
      go_enter Try.func29, Try.ntmps29
      go_wp2_with fail
      refine HF.out.mono ?_
      rintro e w2 ⟨⟨v, rfl⟩, x2, b2⟩
      have H := hideIt (And.intro x2 b2)
      clear x2 b2
      go_wp2
      go_ret
      exact ⟨rfl, H.out⟩
    · have q1 : akE x = 70 := by unfold akE; rw [if_neg e1, if_neg e3]
      have q2 : akS x = x := by unfold akS; rw [if_neg e1, if_neg e3]
      rw [q1, q2]
      have b1 : (x.ph == 1) = false := by simpa using e1
      have b3 : (x.ph == 3) = false := by simpa using e3
      clear h hst q1 q2 e1 e3
      go_enter Try.func29, Try.ntmps29
      go_wp2
      go_ret
      exact ⟨rfl, HX.out, But.rfl⟩
theorem refPause_any {w : World} {p : Nat} {s : Sp} {x : As} (h : Rl w p s x) (n : Int) : Calls Try.prog 30 #[Ptr p, .int .i64 n] w fun e w' => e = .returned (.int .i64 (psE n)) ∧ Rl w' p s (psS x n) ∧ But (One p) w w' := by
  have hst := ps_stands h.st n
  have HX := hideIt h
  have hp0 := pr_no h.may
  obtain ⟨c0, -, -, -, -, -, c6, -, -, -, f6⟩ := cells_of h.at0
  by_cases e1 : 1 ≤ n ∧ n ≤ 6000
  · have q1 : psE n = 0 := by unfold psE; rw [if_pos e1]
    have q2 : psS x n = { x with pa := n } := by unfold psS; rw [if_pos e1]
    rw [q2] at hst ⊢
    rw [q1]
    have hA : ∀ w', w' = w.setCell ⟨p, 6, none⟩ (.int .i64 n) → Rl w' p s { x with pa := n } ∧ But (One p) w w' := by
      intro w' e
      subst e
      exact ⟨⟨blk_put HX.out.at0 6 _, HX.out.may, hst⟩, but_one w p 6 _⟩
    have HA := hideIt hA
    have g1 : ¬ n < 1 := by omega
    have g2 : ¬ 6000 < n := by omega
    clear h hst q1 q2 hA e1
    go_enter Try.func30, Try.ntmps30
    go_wp2
    go_ret
    exact ⟨rfl, HA.out _ rfl⟩
  · have q1 : psE n = 9 := by unfold psE; rw [if_neg e1]
    have q2 : psS x n = x := by unfold psS; rw [if_neg e1]
    rw [q1, q2]
    rcases (by omega : n < 1 ∨ (¬ n < 1 ∧ 6000 < n)) with g1 | ⟨g1, g2⟩
    all_goals
      clear h hst q1 q2 e1
      go_enter Try.func30, Try.ntmps30
      go_wp2
      go_ret
      exact ⟨rfl, HX.out, But.rfl⟩
theorem refNow_any {w : World} {p : Nat} {s : Sp} {x : As} (h : Rl w p s x) : Calls Try.prog 31 #[Ptr p] w fun e w' => e = .returned x.v ∧ After w w' := by
  obtain ⟨w0, hw0⟩ : ∃ w0, w0 = w.alloc (.cells #[.int .i64 0, .int .i64 0, .int .i64 0, .int .i64 0] 25) := ⟨_, rfl⟩
  have hz : w0.heap[w.heap.size]? = some (.cells #[.int .i64 0, .int .i64 0, .int .i64 0, .int .i64 0] 25 (0, 0)) := by rw [hw0]; exact heap_alloc_new w _
  have a0 : After w w0 := by rw [hw0]; exact After.rfl.alloc _
  obtain ⟨-, -, -, c3, c4, c5, c6, -, -, -, -⟩ := cells_of (h.after a0).at0
  have z0 := blk_cell (i := 0) (v := .int .i64 0) hz rfl
  have z1 := blk_cell (i := 1) (v := .int .i64 0) hz rfl
  have z2 := blk_cell (i := 2) (v := .int .i64 0) hz rfl
  have z3 := blk_cell (i := 3) (v := .int .i64 0) hz rfl
  have y0 := blk_soft hz 0
  have y1 := blk_soft hz 1
  have y2 := blk_soft hz 2
  have y3 := blk_soft hz 3
  have HZ := hideIt hz
  have A0 := hideIt a0
  clear h hz a0
  go_enter Try.func31, Try.ntmps31
  go_upto_region 3 with fail
  rw [← hw0]
  clear hw0
  go_wp2
  have h2 := blk_put (blk_put (blk_put (blk_put HZ.out 0 (.int .i64 x.ph)) 1 (.int .i64 x.pr)) 2 (.int .i64 x.si)) 3 (.int .i64 x.pa)
  obtain ⟨p0, p1, p2, p3⟩ := state_at (x := x) (show _ = some (Obj.cells x.cs 25 (0, 0)) from h2) After.rfl
  exact bodyPost_ret (v := x.v) (by simp [results, Try.results31, go_sem, p0, p1, p2, p3]) rfl ⟨rfl, (((A0.out.set ⟨w.heap.size, 0, none⟩ (Nat.le_refl _) _).set ⟨w.heap.size, 1, none⟩ (Nat.le_refl _) _).set ⟨w.heap.size, 2, none⟩ (Nat.le_refl _) _).set ⟨w.heap.size, 3, none⟩ (Nat.le_refl _) _⟩
theorem refStep_nil (w : World) (a : Bool) : Calls Try.prog 28 #[.pointer none, .bool a] w fun e w' => e = .returned (.tuple #[.slice none 0 0, .int .i64 1]) ∧ w' = w := by
  go_enter Try.func28, Try.ntmps28
  go_wp2
  go_ret2
  exact ⟨rfl, rfl⟩
theorem refAck_nil (w : World) : Calls Try.prog 29 #[.pointer none] w fun e w' => e = .returned (.int .i64 1) ∧ w' = w := by
  go_enter Try.func29, Try.ntmps29
  go_wp2
  go_ret
  exact ⟨rfl, rfl⟩
theorem refPause_nil (w : World) (n : Int) : Calls Try.prog 30 #[.pointer none, .int .i64 n] w fun e w' => e = .returned (.int .i64 1) ∧ w' = w := by
  go_enter Try.func30, Try.ntmps30
  go_wp2
  go_ret
  exact ⟨rfl, rfl⟩
theorem refNow_nil (w : World) : Calls Try.prog 31 #[.pointer none] w fun e w' => e = .returned As.zero.v ∧ After w w' := by
  obtain ⟨w0, hw0⟩ : ∃ w0, w0 = w.alloc (.cells #[.int .i64 0, .int .i64 0, .int .i64 0, .int .i64 0] 25) := ⟨_, rfl⟩
  have hz : w0.heap[w.heap.size]? = some (.cells #[.int .i64 0, .int .i64 0, .int .i64 0, .int .i64 0] 25 (0, 0)) := by rw [hw0]; exact heap_alloc_new w _
  have a0 : After w w0 := by rw [hw0]; exact After.rfl.alloc _
  have z0 := blk_cell (i := 0) (v := .int .i64 0) hz rfl
  have z1 := blk_cell (i := 1) (v := .int .i64 0) hz rfl
  have z2 := blk_cell (i := 2) (v := .int .i64 0) hz rfl
  have z3 := blk_cell (i := 3) (v := .int .i64 0) hz rfl
  have y0 := blk_soft hz 0
  have y1 := blk_soft hz 1
  have y2 := blk_soft hz 2
  have y3 := blk_soft hz 3
  have HZ := hideIt hz
  have A0 := hideIt a0
  clear hz a0
  go_enter Try.func31, Try.ntmps31
  go_upto_region 2 with fail
  rw [← hw0]
  clear hw0
  go_wp2
  have h2 := blk_put (blk_put (blk_put (blk_put HZ.out 0 (.int .i64 0)) 1 (.int .i64 0)) 2 (.int .i64 0)) 3 (.int .i64 0)
  obtain ⟨p0, p1, p2, p3⟩ := state_at (x := As.zero) (show _ = some (Obj.cells As.zero.cs 25 (0, 0)) from h2) After.rfl
  exact bodyPost_ret (v := As.zero.v) (by simp [results, Try.results31, go_sem, z0, z1, z2, z3, As.zero]) rfl ⟨rfl, (((A0.out.set ⟨w.heap.size, 0, none⟩ (Nat.le_refl _) _).set ⟨w.heap.size, 1, none⟩ (Nat.le_refl _) _).set ⟨w.heap.size, 2, none⟩ (Nat.le_refl _) _).set ⟨w.heap.size, 3, none⟩ (Nat.le_refl _) _⟩
end Go.Proofs.Ythggkpmhcdmalaa
