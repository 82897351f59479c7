/-
  Package alarm: Ack, Pause, State; all four of what is none.
-/
import Derived.Test.YthggkpmhcdmalaaAlE
namespace Go.Proofs.Ythggkpmhcdmalaa
open Go.RowKit
set_option maxRecDepth 8000
theorem ack_any {w : World} {p : Nat} {s : Sp} {x : As} (h : Al w p s x) : Calls Try.prog 21 #[Ptr p] w fun e w' => e = .returned (.int .i64 (akE x)) ∧ Al w' p s (akS x) ∧ But (One p) w w' := by
  have HN := hideIt (isNone_no h)
  have hst := ak_stands h.st
  have HC := hideIt (fun V (a : After w V) => cells_of (h.after a).at0)
  have HX := hideIt h
  by_cases e1 : x.ph = 1
  · have q1 : akE x = 0 := by unfold akE; rw [if_pos e1]
    have q2 : akS x = { x with ph := 2, si := 0 } := by unfold akS; rw [if_pos e1]
    rw [q2] at hst ⊢
    rw [q1]
    have hA : ∀ V, After w V → ∀ w', w' = (V.setCell ⟨p, 3, none⟩ (.int .i64 2)).setCell ⟨p, 5, none⟩ (.int .i64 0) → Al w' p s { x with ph := 2, si := 0 } ∧ But (One p) w w' := by
      intro V a w' e
      subst e
      exact ⟨⟨blk_put (blk_put (HX.out.after a).at0 3 _) 5 _, HX.out.may, hst⟩, (a.but.trans (but_one V p 3 _)).trans (but_one _ p 5 _)⟩
    have HA := hideIt hA
    have E1 := hideIt e1
    clear h hst q1 q2 hA e1
    go_enter Try.func21, Try.ntmps21
    go_wp2_with fail
    refine HN.out.mono ?_
    rintro e w1 ⟨rfl, a1⟩
    obtain ⟨-, -, -, c3, -, c5, -, f3, -, f5, -⟩ := HC.out _ a1
    rw [E1.out] at c3
    have A1 := hideIt a1
    clear a1 HN
    go_wp2
    go_ret
    exact ⟨rfl, HA.out _ A1.out _ rfl⟩
  · by_cases e3 : x.ph = 3
    · have q1 : akE x = 0 := by unfold akE; rw [if_neg e1, if_pos e3]
      have q2 : akS x = { x with ph := 0, pr := 0, si := 0 } := by unfold akS; rw [if_neg e1, if_pos e3]
      rw [q2] at hst ⊢
      rw [q1]
      have HF := hideIt (fun V (a : After w V) => fall_quiet (h.after a) hst)
      have E3 := hideIt e3
      clear h hst q1 q2 e1 e3
      go_enter Try.func21, Try.ntmps21
      go_wp2_with fail
      refine HN.out.mono ?_
      rintro e w1 ⟨rfl, a1⟩
      obtain ⟨-, -, -, c3, -, -, -, -, -, -, -⟩ := HC.out _ a1
      rw [E3.out] at c3
      have A1 := hideIt a1
      clear a1 HN
      go_wp2_with fail
      refine (HF.out _ A1.out).mono ?_
      rintro e w2 ⟨rfl, x2, b2⟩
      have H := hideIt (And.intro x2 b2)
      clear x2 b2
      go_wp2
      go_ret
      exact ⟨rfl, H.out.1, But.trans A1.out.but H.out.2⟩
    · have q1 : akE x = 70 := by unfold akE; rw [if_neg e1, if_neg e3]
      have q2 : akS x = x := by unfold akS; rw [if_neg e1, if_neg e3]
      rw [q1, q2]
      have b1 : (x.ph == 1) = false := by simpa using e1
      have b3 : (x.ph == 3) = false := by simpa using e3
      clear h hst q1 q2 e1 e3
      go_enter Try.func21, Try.ntmps21
      go_wp2_with fail
      refine HN.out.mono ?_
      rintro e w1 ⟨rfl, a1⟩
      obtain ⟨-, -, -, c3, -, -, -, -, -, -, -⟩ := HC.out _ a1
      have A1 := hideIt a1
      clear a1 HN
      go_wp2
      go_ret
      exact ⟨rfl, HX.out.after A1.out, A1.out.but⟩
theorem pause_any {w : World} {p : Nat} {s : Sp} {x : As} (h : Al w p s x) (n : Int) : Calls Try.prog 22 #[Ptr p, .int .i64 n] w fun e w' => e = .returned (.int .i64 (psE n)) ∧ Al w' p s (psS x n) ∧ But (One p) w w' := by
  have HN := hideIt (isNone_no h)
  have hst := ps_stands h.st n
  have HC := hideIt (fun V (a : After w V) => cells_of (h.after a).at0)
  have HX := hideIt h
  by_cases e1 : 1 ≤ n ∧ n ≤ 6000
  · have q1 : psE n = 0 := by unfold psE; rw [if_pos e1]
    have q2 : psS x n = { x with pa := n } := by unfold psS; rw [if_pos e1]
    rw [q2] at hst ⊢
    rw [q1]
    have hA : ∀ V, After w V → ∀ w', w' = V.setCell ⟨p, 6, none⟩ (.int .i64 n) → Al w' p s { x with pa := n } ∧ But (One p) w w' := by
      intro V a w' e
      subst e
      exact ⟨⟨blk_put (HX.out.after a).at0 6 _, HX.out.may, hst⟩, a.but.trans (but_one V p 6 _)⟩
    have HA := hideIt hA
    have g1 : ¬ n < 1 := by omega
    have g2 : ¬ 6000 < n := by omega
    clear h hst q1 q2 hA e1
    go_enter Try.func22, Try.ntmps22
    go_wp2_with fail
    refine HN.out.mono ?_
    rintro e w1 ⟨rfl, a1⟩
    obtain ⟨-, -, -, -, -, -, c6, -, -, -, f6⟩ := HC.out _ a1
    have A1 := hideIt a1
    clear a1 HN
    go_wp2
    go_ret
    exact ⟨rfl, HA.out _ A1.out _ rfl⟩
  · have q1 : psE n = 9 := by unfold psE; rw [if_neg e1]
    have q2 : psS x n = x := by unfold psS; rw [if_neg e1]
    rw [q1, q2]
    rcases (by omega : n < 1 ∨ (¬ n < 1 ∧ 6000 < n)) with g1 | ⟨g1, g2⟩
    all_goals
      clear h hst q1 q2 e1
      go_enter Try.func22, Try.ntmps22
      go_wp2_with fail
      refine HN.out.mono ?_
      rintro e w1 ⟨rfl, a1⟩
      have A1 := hideIt a1
      clear a1 HN
      go_wp2
      go_ret
      exact ⟨rfl, HX.out.after A1.out, A1.out.but⟩
theorem state_any {w : World} {p : Nat} {s : Sp} {x : As} (h : Al w p s x) : Calls Try.prog 17 #[Ptr p] w fun e w' => e = .returned x.v ∧ After w w' := by
  have HN := hideIt (fun V (a : After w V) => isNone_no (h.after a))
  have HC := hideIt (fun V (a : After w V) => cells_of (h.after a).at0)
  obtain ⟨w0, hw0⟩ : ∃ w0, w0 = w.alloc (.cells #[.int .i64 0, .int .i64 0, .int .i64 0, .int .i64 0] 25) := ⟨_, rfl⟩
  have hz : w0.heap[w.heap.size]? = some (.cells #[.int .i64 0, .int .i64 0, .int .i64 0, .int .i64 0] 25 (0, 0)) := by rw [hw0]; exact heap_alloc_new w _
  have a0 : After w w0 := by rw [hw0]; exact After.rfl.alloc _
  have HZ := hideIt hz
  have A0 := hideIt a0
  clear h hz a0
  go_enter Try.func17, Try.ntmps17
  go_wp2_with fail
  rw [← hw0]
  clear hw0
  refine (HN.out _ A0.out).mono ?_
  rintro e w1 ⟨rfl, a1⟩
  obtain ⟨-, -, -, c3, c4, c5, c6, -, -, -, -⟩ := HC.out _ (A0.out.trans a1)
  have hb := (a1.block w.heap.size (blk_lt HZ.out) (fun t => t)).trans HZ.out
  have z0 := blk_cell (i := 0) (v := .int .i64 0) hb rfl
  have z1 := blk_cell (i := 1) (v := .int .i64 0) hb rfl
  have z2 := blk_cell (i := 2) (v := .int .i64 0) hb rfl
  have z3 := blk_cell (i := 3) (v := .int .i64 0) hb rfl
  have y0 := blk_soft hb 0
  have y1 := blk_soft hb 1
  have y2 := blk_soft hb 2
  have y3 := blk_soft hb 3
  have A1 := hideIt (A0.out.trans a1)
  have HB := hideIt hb
  clear a1 HN HC hb
  go_wp2_with fail
  go_region
  generalize hv : (((w1.setCell ⟨w.heap.size, 0, none⟩ (.int .i64 x.ph)).setCell ⟨w.heap.size, 1, none⟩ (.int .i64 x.pr)).setCell ⟨w.heap.size, 2, none⟩ (.int .i64 x.si)).setCell ⟨w.heap.size, 3, none⟩ (.int .i64 x.pa) = w2
  have h2 : w2.heap[w.heap.size]? = some (.cells x.cs 25 (0, 0)) := by rw [← hv]; exact blk_put (blk_put (blk_put (blk_put HB.out 0 _) 1 _) 2 _) 3 _
  have a2 : After w w2 := by
    rw [← hv]
    exact (((A1.out.set ⟨w.heap.size, 0, none⟩ (Nat.le_refl _) _).set ⟨w.heap.size, 1, none⟩ (Nat.le_refl _) _).set ⟨w.heap.size, 2, none⟩ (Nat.le_refl _) _).set ⟨w.heap.size, 3, none⟩ (Nat.le_refl _) _
  have A2 := hideIt (But.drew a2)
  have h3 : w2.drew.heap[w.heap.size]? = some (.cells x.cs 25 (0, 0)) := h2
  obtain ⟨p0, p1, p2, p3⟩ := state_at h3 After.rfl
  clear hv a2 h2 h3 z0 z1 z2 z3 y0 y1 y2 y3 c3 c4 c5 c6 HB A1 A0 HZ
  generalize w2.drew = w3 at *
  go_wp2
  exact bodyPost_ret (v := x.v) (by simp [results, Try.results17, go_sem, p0, p1, p2, p3]) rfl ⟨rfl, A2.out⟩
theorem step_none {w : World} {v : Value} (h : NoneA w v) (a : Bool) : Calls Try.prog 20 #[v, .bool a] w fun e w' => e = .returned (.tuple #[.slice none 0 0, .int .i64 1]) ∧ After w w' := by
  have H := hideIt (h w After.rfl)
  clear h
  go_enter Try.func20, Try.ntmps20
  go_wp2_with fail
  refine H.out.mono ?_
  rintro e w1 ⟨rfl, a1⟩
  go_wp2
  go_ret2
  exact ⟨rfl, a1⟩
theorem ack_none {w : World} {v : Value} (h : NoneA w v) : Calls Try.prog 21 #[v] w fun e w' => e = .returned (.int .i64 1) ∧ After w w' := by
  have H := hideIt (h w After.rfl)
  clear h
  go_enter Try.func21, Try.ntmps21
  go_wp2_with fail
  refine H.out.mono ?_
  rintro e w1 ⟨rfl, a1⟩
  go_wp2
  go_ret
  exact ⟨rfl, a1⟩
theorem pause_none {w : World} {v : Value} (h : NoneA w v) (n : Int) : Calls Try.prog 22 #[v, .int .i64 n] w fun e w' => e = .returned (.int .i64 1) ∧ After w w' := by
  have H := hideIt (h w After.rfl)
  clear h
  go_enter Try.func22, Try.ntmps22
  go_wp2_with fail
  refine H.out.mono ?_
  rintro e w1 ⟨rfl, a1⟩
  go_wp2
  go_ret
  exact ⟨rfl, a1⟩
theorem state_none {w : World} {v : Value} (h : NoneA w v) : Calls Try.prog 17 #[v] w fun e w' => e = .returned As.zero.v ∧ After w w' := by
  obtain ⟨w0, hw0⟩ : ∃ w0, w0 = w.alloc (.cells #[.int .i64 0, .int .i64 0, .int .i64 0, .int .i64 0] 25) := ⟨_, rfl⟩
  have hz : w0.heap[w.heap.size]? = some (.cells #[.int .i64 0, .int .i64 0, .int .i64 0, .int .i64 0] 25 (0, 0)) := by rw [hw0]; exact heap_alloc_new w _
  have a0 : After w w0 := by rw [hw0]; exact After.rfl.alloc _
  have H := hideIt (h w0 a0)
  have HZ := hideIt hz
  have A0 := hideIt a0
  clear h hz a0
  go_enter Try.func17, Try.ntmps17
  go_wp2_with fail
  rw [← hw0]
  clear hw0
  refine H.out.mono ?_
  rintro e w1 ⟨rfl, a1⟩
  have hb := (a1.block w.heap.size (blk_lt HZ.out) (fun t => t)).trans HZ.out
  have z0 := blk_cell (i := 0) (v := .int .i64 0) hb rfl
  have z1 := blk_cell (i := 1) (v := .int .i64 0) hb rfl
  have z2 := blk_cell (i := 2) (v := .int .i64 0) hb rfl
  have z3 := blk_cell (i := 3) (v := .int .i64 0) hb rfl
  have y0 := blk_soft hb 0
  have y1 := blk_soft hb 1
  have y2 := blk_soft hb 2
  have y3 := blk_soft hb 3
  have A1 := hideIt (A0.out.trans a1)
  have HB := hideIt hb
  clear a1 hb
  go_wp2
  exact bodyPost_ret (v := As.zero.v) (by simp [results, Try.results17, go_sem, z0, z1, z2, z3, As.zero]) rfl ⟨rfl, (((A1.out.set ⟨w.heap.size, 0, none⟩ (Nat.le_refl _) _).set ⟨w.heap.size, 1, none⟩ (Nat.le_refl _) _).set ⟨w.heap.size, 2, none⟩ (Nat.le_refl _) _).set ⟨w.heap.size, 3, none⟩ (Nat.le_refl _) _⟩
end Go.Proofs.Ythggkpmhcdmalaa
