/-
  LapseKnown.
-/
import Derived.Test.YtnjdhnoippifaaaLpT
namespace Go.Proofs.Ytnjdhnoippifaaa
open Go.RowKit
set_option maxRecDepth 8000
/-- The pairs. -/
abbrev prs : Array Value := #[.int .i64 0, .int .i64 2, .int .i64 1, .int .i64 0, .int .i64 10000, .int .i64 0, .int .i64 10001, .int .i64 2, .int .i64 (-1), .int .i64 2]
set_option maxHeartbeats 4000000 in
theorem law_knownL (w : World) : Calls Try.prog 7 #[] w fun e w' => e = .returned (.bool true) ∧ After w w' := by
  have hb0 : (w.alloc (.cells prs 40)).heap[w.heap.size]? = some (.cells prs 40 (0, 0)) := heap_alloc_new w _
  obtain ⟨w1, hw1⟩ : ∃ w1, w1 = w.alloc (.cells prs 40) := ⟨_, rfl⟩
  rw [← hw1] at hb0
  have a1 : After w w1 := by rw [hw1]; exact After.rfl.alloc _
  have HB0 := hideIt hb0
  have A1 := hideIt a1
  clear hb0 a1
  go_enter Try.func7, Try.ntmps7
  go_wp2_with fail
  rw [← hw1]
  clear hw1
  go_loopw [16] (fun i wr => ∃ q : Nat, q ≤ 5 ∧ i = .int .i64 (q : Int) ∧ After w1 wr) (fun i _ => 5 - (intOf i).toNat)
  case atStart => exact ⟨0, Nat.zero_le _, rfl, After.rfl⟩
  case round =>
    obtain ⟨q, hq, rfl, af⟩ := hrel
    have HA := hideIt af
    by_cases hq2 : q < 5
    · have HOK := hideIt (fun W n h => lpNew_ok W n h)
      have HNO := hideIt (fun W n h => lpNew_no W n h)
      obtain ⟨q', hq'⟩ : ∃ q', q' = q + 1 := ⟨_, rfl⟩
      have HQ := hideIt hq'
      have hbk := (af.block w.heap.size (blk_lt HB0.out) (fun t => t)).trans HB0.out
      clear hq' af
      rcases (by omega : q = 0 ∨ q = 1 ∨ q = 2 ∨ q = 3 ∨ q = 4) with rfl | rfl | rfl | rfl | rfl
      · have e0 := blk_cell (i := 0) (v := .int .i64 0) hbk rfl
        have e1 := blk_cell (i := 1) (v := .int .i64 2) hbk rfl
        have hcell := two_new wr 40 (.int .i64 0) (.int .i64 2)
        have hcb : ∀ W, After (wr.alloc (.cells #[.int .i64 0, .int .i64 2] 40)) W → W.cell? ⟨wr.heap.size, 1, none⟩ = some (.int .i64 2) := fun W h => (h.cell (two_at hcell).1 1).trans (two_at hcell).2.2.1
        have HCB := hideIt hcb
        clear hbk hq hq2 hcell hcb
        go_wp2_with fail
        refine (HNO.out _ _ (by unfold May; omega)).mono ?_
        rintro e w2 ⟨rfl, hw⟩
        have HB := hideIt (show After w1 w2 by rw [hw]; exact HA.out.alloc _)
        have e2 := HCB.out w2 (by rw [hw]; first | exact After.rfl | exact After.rfl.alloc _)
        clear hw HCB
        go_wp2
        go_roundw
        case rel => exact ⟨q', by have := HQ.out; omega, congrArg (Value.int .i64) (by have := HQ.out; omega), HB.out⟩
        case measure => simp [intOf]
      · have e0 := blk_cell (i := 2) (v := .int .i64 1) hbk rfl
        have e1 := blk_cell (i := 3) (v := .int .i64 0) hbk rfl
        have hcell := two_new wr 40 (.int .i64 1) (.int .i64 0)
        have hcb : ∀ W, After (wr.alloc (.cells #[.int .i64 1, .int .i64 0] 40)) W → W.cell? ⟨wr.heap.size, 1, none⟩ = some (.int .i64 0) := fun W h => (h.cell (two_at hcell).1 1).trans (two_at hcell).2.2.1
        have HCB := hideIt hcb
        clear hbk hq hq2 hcell hcb
        go_wp2_with fail
        refine (HOK.out _ _ (by unfold May; omega)).mono ?_
        rintro e w2 ⟨rfl, hw⟩
        have HB := hideIt (show After w1 w2 by rw [hw]; exact (HA.out.alloc _).alloc _)
        have e2 := HCB.out w2 (by rw [hw]; first | exact After.rfl | exact After.rfl.alloc _)
        clear hw HCB
        go_wp2
        go_roundw
        case rel => exact ⟨q', by have := HQ.out; omega, congrArg (Value.int .i64) (by have := HQ.out; omega), HB.out⟩
        case measure => simp [intOf]
      · have e0 := blk_cell (i := 4) (v := .int .i64 10000) hbk rfl
        have e1 := blk_cell (i := 5) (v := .int .i64 0) hbk rfl
        have hcell := two_new wr 40 (.int .i64 10000) (.int .i64 0)
        have hcb : ∀ W, After (wr.alloc (.cells #[.int .i64 10000, .int .i64 0] 40)) W → W.cell? ⟨wr.heap.size, 1, none⟩ = some (.int .i64 0) := fun W h => (h.cell (two_at hcell).1 1).trans (two_at hcell).2.2.1
        have HCB := hideIt hcb
        clear hbk hq hq2 hcell hcb
        go_wp2_with fail
        refine (HOK.out _ _ (by unfold May; omega)).mono ?_
        rintro e w2 ⟨rfl, hw⟩
        have HB := hideIt (show After w1 w2 by rw [hw]; exact (HA.out.alloc _).alloc _)
        have e2 := HCB.out w2 (by rw [hw]; first | exact After.rfl | exact After.rfl.alloc _)
        clear hw HCB
        go_wp2
        go_roundw
        case rel => exact ⟨q', by have := HQ.out; omega, congrArg (Value.int .i64) (by have := HQ.out; omega), HB.out⟩
        case measure => simp [intOf]
      · have e0 := blk_cell (i := 6) (v := .int .i64 10001) hbk rfl
        have e1 := blk_cell (i := 7) (v := .int .i64 2) hbk rfl
        have hcell := two_new wr 40 (.int .i64 10001) (.int .i64 2)
        have hcb : ∀ W, After (wr.alloc (.cells #[.int .i64 10001, .int .i64 2] 40)) W → W.cell? ⟨wr.heap.size, 1, none⟩ = some (.int .i64 2) := fun W h => (h.cell (two_at hcell).1 1).trans (two_at hcell).2.2.1
        have HCB := hideIt hcb
        clear hbk hq hq2 hcell hcb
        go_wp2_with fail
        refine (HNO.out _ _ (by unfold May; omega)).mono ?_
        rintro e w2 ⟨rfl, hw⟩
        have HB := hideIt (show After w1 w2 by rw [hw]; exact HA.out.alloc _)
        have e2 := HCB.out w2 (by rw [hw]; first | exact After.rfl | exact After.rfl.alloc _)
        clear hw HCB
        go_wp2
        go_roundw
        case rel => exact ⟨q', by have := HQ.out; omega, congrArg (Value.int .i64) (by have := HQ.out; omega), HB.out⟩
        case measure => simp [intOf]
      · have e0 := blk_cell (i := 8) (v := .int .i64 (-1)) hbk rfl
        have e1 := blk_cell (i := 9) (v := .int .i64 2) hbk rfl
        have hcell := two_new wr 40 (.int .i64 (-1)) (.int .i64 2)
        have hcb : ∀ W, After (wr.alloc (.cells #[.int .i64 (-1), .int .i64 2] 40)) W → W.cell? ⟨wr.heap.size, 1, none⟩ = some (.int .i64 2) := fun W h => (h.cell (two_at hcell).1 1).trans (two_at hcell).2.2.1
        have HCB := hideIt hcb
        clear hbk hq hq2 hcell hcb
        go_wp2_with fail
        refine (HNO.out _ _ (by unfold May; omega)).mono ?_
        rintro e w2 ⟨rfl, hw⟩
        have HB := hideIt (show After w1 w2 by rw [hw]; exact HA.out.alloc _)
        have e2 := HCB.out w2 (by rw [hw]; first | exact After.rfl | exact After.rfl.alloc _)
        clear hw HCB
        go_wp2
        go_roundw
        case rel => exact ⟨q', by have := HQ.out; omega, congrArg (Value.int .i64) (by have := HQ.out; omega), HB.out⟩
        case measure => simp [intOf]
    · obtain rfl : q = 5 := by omega
      have z0 : (wr.alloc (.cells #[.int .i64 0, .bool false, .bool false, .int .i64 0] 43)).heap[wr.heap.size]? = some (.cells #[.int .i64 0, .bool false, .bool false, .int .i64 0] 43 (0, 0)) := heap_alloc_new wr _
      obtain ⟨wz, hwz⟩ : ∃ wz, wz = wr.alloc (.cells #[.int .i64 0, .bool false, .bool false, .int .i64 0] 43) := ⟨_, rfl⟩
      rw [← hwz] at z0
      have AZ := hideIt (show After w wz by rw [hwz]; exact (A1.out.trans HA.out).alloc _)
      have HZ := hideIt (fun W (h : After wz W) => (h.block _ (blk_lt z0) (fun t => t)).trans z0)
      have HN := hideIt (lpNew_ok wz 10000 (by unfold May; omega))
      have x0 : Wk wz (wz.alloc (.cells #[.int .i64 10000, .bool false, .bool false, .int .i64 0] 43)) wz.heap.size 10000 Ls.new := ⟨lp_new (heap_alloc_new wz _) (by omega) (by omega), After.rfl.alloc _, Nat.le_refl _⟩
      generalize wz.alloc (.cells #[.int .i64 10000, .bool false, .bool false, .int .i64 0] 43) = wx at HN x0
      generalize wz.heap.size = p at *
      have X := hideIt x0
      clear z0 hq hq2 af x0 HA
      go_wp2_with fail
      rw [← hwz]
      generalize wr.heap.size = z at *
      refine HN.out.mono ?_
      rintro e y0 ⟨rfl, rfl⟩
      clear HN hwz
      have HR := hideIt (stands_lit (w := y0) (says_of X.out.lp) (errs_of _) #[.int .i64 10000, .int .i64 10001, .int .i64 2147483647, .int .i64 2147483648, .int .i64 (-1)] [10000, 10001, 2147483647, 2147483648, -1] [0, 3, 3, 19, 19] 5 rfl rfl (by decide) (by decide))
      go_wp2_with fail
      refine HR.out.mono ?_
      rintro e x1 ⟨ra1, rc1, rfl, ri, a1⟩
      have Y := hideIt (X.out.after a1)
      have HE := hideIt (eq_lit (w := x1) (c := rc1) #[.int .i64 0, .int .i64 3, .int .i64 3, .int .i64 19, .int .i64 19] [0, 3, 3, 19, 19] 5 rfl rfl ri (by decide))
      clear ri a1 HR X
      go_wp2_with fail
      refine HE.out.mono ?_
      rintro e y1 ⟨rfl, c1⟩
      have X := hideIt (Y.out.after c1)
      clear c1 Y HE
      have HR := hideIt (X.out.hear 2147483648 false Ls.new 9 (by decide) rfl)
      go_wp2_with fail
      refine HR.out.mono ?_
      rintro e y2 ⟨rfl, x2⟩
      have X := hideIt x2
      clear x2 HR
      have HR := hideIt (X.out.hear (-1) true Ls.new 9 (by decide) rfl)
      go_wp2_with fail
      refine HR.out.mono ?_
      rintro e y3 ⟨rfl, x3⟩
      have X := hideIt x3
      clear x3 HR
      have HR := hideIt (X.out.hear 2147483647 true ⟨true, true, 2147483647⟩ 0 (by decide) rfl)
      go_wp2_with fail
      refine HR.out.mono ?_
      rintro e y4 ⟨rfl, x4⟩
      have X := hideIt x4
      clear x4 HR
      have HR := hideIt (stands_lit (w := y4) (says_of X.out.lp) (errs_of _) #[.int .i64 2147483647, .int .i64 0] [2147483647, 0] [4, 19] 2 rfl rfl (by decide) (by decide))
      go_wp2_with fail
      refine HR.out.mono ?_
      rintro e x5 ⟨ra5, rc5, rfl, ri, a5⟩
      have Y := hideIt (X.out.after a5)
      have HE := hideIt (eq_lit (w := x5) (c := rc5) #[.int .i64 4, .int .i64 19] [4, 19] 2 rfl rfl ri (by decide))
      clear ri a5 HR X
      go_wp2_with fail
      refine HE.out.mono ?_
      rintro e y5 ⟨rfl, c5⟩
      have X := hideIt (Y.out.after c5)
      clear c5 Y HE
      have HW := hideIt (works_any y5)
      go_wp2_with fail
      refine HW.out.mono ?_
      rintro e y6 ⟨rfl, c6⟩
      have Y := hideIt (X.out.after c6)
      clear c6 X HW
      have HR := hideIt (lpHeard_none (lpNone_nil y6) 1 false)
      go_wp2_with fail
      refine HR.out.mono ?_
      rintro e w' ⟨rfl, rfl⟩
      clear HR
      have HR := hideIt (lpHeard_none (lpNone_zero (HZ.out w' Y.out.aft)) 1 false)
      go_wp2_with fail
      refine HR.out.mono ?_
      rintro e y7 ⟨rfl, rfl⟩
      clear HR
      have X := Y
      clear Y
      have HR := hideIt (stands_lit (w := y7) (says_nil _) errs_one #[.int .i64 0] [0] [11] 1 rfl rfl (by decide) (by decide))
      go_wp2_with fail
      refine HR.out.mono ?_
      rintro e x8 ⟨ra8, rc8, rfl, ri, a8⟩
      have Y := hideIt (X.out.after a8)
      have HE := hideIt (eq_lit (w := x8) (c := rc8) #[.int .i64 11] [11] 1 rfl rfl ri (by decide))
      clear ri a8 HR X
      go_wp2_with fail
      refine HE.out.mono ?_
      rintro e y8 ⟨rfl, c8⟩
      have X := hideIt (Y.out.after c8)
      clear c8 Y HE
      have HR := hideIt (stands_lit (w := y8) (says_zero (HZ.out y8 X.out.aft)) errs_one #[.int .i64 0, .int .i64 (-1)] [0, -1] [11, 11] 2 rfl rfl (by decide) (by decide))
      go_wp2_with fail
      refine HR.out.mono ?_
      rintro e x9 ⟨ra9, rc9, rfl, ri, a9⟩
      have Y := hideIt (X.out.after a9)
      have HE := hideIt (eq_lit (w := x9) (c := rc9) #[.int .i64 11, .int .i64 11] [11, 11] 2 rfl rfl ri (by decide))
      clear ri a9 HR X
      go_wp2_with fail
      refine HE.out.mono ?_
      rintro e y9 ⟨rfl, c9⟩
      have X := hideIt (Y.out.after c9)
      clear c9 Y HE
      go_wp2
      go_ret
      exact ⟨rfl, AZ.out.trans X.out.aft⟩
end Go.Proofs.Ytnjdhnoippifaaa
