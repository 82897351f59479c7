/-
  IirKnown.
-/
import Derived.Test.YtlfaphceeclphaaIrT
namespace Go.Proofs.Ytlfaphceeclphaa
open Go.RowKit
set_option maxRecDepth 8000
theorem slws_a : slws 1 [0, 499, 500, -500] 4 = [0, 0, 1, 0] := by decide
theorem slws_b : slws 500 [1099511627776, -1099511627776] 2 = [2147483647, 0] := by decide
theorem slws_c : slws 1000 [5, -5, 5] 3 = [5, -5, 5] := by decide
/-- A run of a literal. -/
theorem run_lit {w : World} (N : Int) (N' : Nat) (hn : N = (N' : Int)) (hm : May (N' : Int)) (cs : Array Value) (xs ys : List Int) (k : Nat) (hz : cs.toList = i64s xs) (hk : k = xs.length) (hs : slws N' xs k = ys) (hb : k ≤ 17592186044416) :
    Calls Try.prog 14 #[.int .i64 N, .slice (some ⟨w.heap.size, 0, none⟩) k k] (w.alloc (.cells cs 3)) fun e w' => ∃ a c, e = .returned (.slice a k c) ∧ IRow w' a k ys ∧ After w w' := by
  subst hn
  have hrow : IRow (w.alloc (.cells cs 3)) (some ⟨w.heap.size, 0, none⟩) k xs := lit_irow (heap_alloc_new w _) hz hk
  refine (run_any _ N' hm _ k k _ hrow hb).mono ?_
  rintro e w2 ⟨v, rfl, own, a2⟩
  obtain ⟨a, c, rfl, ir, -, -, -⟩ := own_irow own
  rw [slws_length] at ir ⊢
  rw [hs] at ir
  exact ⟨a, c, rfl, ir, (After.rfl.alloc _).trans a2⟩
theorem eq_lit {w : World} {a : Option Addr} {c : Nat} (cs : Array Value) (ys : List Int) (k : Nat) (hz : cs.toList = i64s ys) (hk : k = ys.length) (ir : IRow w a k ys) (hb : k ≤ 17592186044416) :
    Calls Try.prog 17 #[.slice a k c, .slice (some ⟨w.heap.size, 0, none⟩) k k] (w.alloc (.cells cs 3)) fun e w' => e = .returned (.bool true) ∧ After w w' := by
  have hrow : IRow (w.alloc (.cells cs 3)) (some ⟨w.heap.size, 0, none⟩) k ys := lit_irow (heap_alloc_new w _) hz hk
  refine (eqInts_same _ _ _ k c k _ (ir.after (After.rfl.alloc _)) hrow (by omega)).mono ?_
  rintro e w2 ⟨rfl, a2⟩
  exact ⟨rfl, (After.rfl.alloc _).trans a2⟩
/-- The pairs. -/
abbrev prs : Array Value := #[.int .i64 0, .int .i64 2, .int .i64 1, .int .i64 0, .int .i64 1000, .int .i64 0, .int .i64 1001, .int .i64 2, .int .i64 (-1), .int .i64 2, .int .i64 (-9223372036854775808), .int .i64 2]
set_option maxHeartbeats 4000000 in
theorem law_knownI (w : World) : Calls Try.prog 7 #[] w fun e w' => e = .returned (.bool true) ∧ After w w' := by
  have hb0 : (w.alloc (.cells prs 37)).heap[w.heap.size]? = some (.cells prs 37 (0, 0)) := heap_alloc_new w _
  obtain ⟨w1, hw1⟩ : ∃ w1, w1 = w.alloc (.cells prs 37) := ⟨_, rfl⟩
  rw [← hw1] at hb0
  have a1 : After w w1 := by rw [hw1]; exact After.rfl.alloc _
  have HB0 := hideIt hb0
  have A1 := hideIt a1
  clear hb0 a1
  go_enter Try.func7, Try.ntmps7
  go_wp2_with fail
  rw [← hw1]
  clear hw1
  go_loopw [21] (fun i wr => ∃ q : Nat, q ≤ 6 ∧ i = .int .i64 (q : Int) ∧ After w1 wr) (fun i _ => 6 - (intOf i).toNat)
  case atStart => exact ⟨0, Nat.zero_le _, rfl, After.rfl⟩
  case round =>
    obtain ⟨q, hq, rfl, af⟩ := hrel
    have HA := hideIt af
    by_cases hq2 : q < 6
    · have HOK := hideIt (fun W n h => irNew_ok W n h)
      have HNO := hideIt (fun W n h => irNew_no W n h)
      obtain ⟨q', hq'⟩ : ∃ q', q' = q + 1 := ⟨_, rfl⟩
      have HQ := hideIt hq'
      have hbk := (af.block w.heap.size (blk_lt HB0.out) (fun t => t)).trans HB0.out
      clear hq' af
      rcases (by omega : q = 0 ∨ q = 1 ∨ q = 2 ∨ q = 3 ∨ q = 4 ∨ q = 5) with rfl | rfl | rfl | rfl | rfl | rfl
      · have e0 := blk_cell (i := 0) (v := .int .i64 0) hbk rfl
        have e1 := blk_cell (i := 1) (v := .int .i64 2) hbk rfl
        have hcell := two_new wr 37 (.int .i64 0) (.int .i64 2)
        have hcb : ∀ W, After (wr.alloc (.cells #[.int .i64 0, .int .i64 2] 37)) W → W.cell? ⟨wr.heap.size, 1, none⟩ = some (.int .i64 2) := fun W h => (h.cell (two_at hcell).1 1).trans (two_at hcell).2.2.1
        have HCB := hideIt hcb
        clear hbk hq hq2 hcell hcb
        go_wp2_with fail
        refine (HNO.out _ _ (by unfold May; omega)).mono ?_
        rintro e w2 ⟨rfl, hw⟩
        have HB := hideIt (show After w1 w2 by rw [hw]; exact HA.out.alloc _)
        have e2 := HCB.out w2 (by rw [hw]; first | exact After.rfl | exact After.rfl.alloc _)
        clear hw HCB
        go_wp2
        go_roundw
        case rel => exact ⟨q', by have := HQ.out; omega, congrArg (Value.int .i64) (by have := HQ.out; omega), HB.out⟩
        case measure => simp [intOf]
      · have e0 := blk_cell (i := 2) (v := .int .i64 1) hbk rfl
        have e1 := blk_cell (i := 3) (v := .int .i64 0) hbk rfl
        have hcell := two_new wr 37 (.int .i64 1) (.int .i64 0)
        have hcb : ∀ W, After (wr.alloc (.cells #[.int .i64 1, .int .i64 0] 37)) W → W.cell? ⟨wr.heap.size, 1, none⟩ = some (.int .i64 0) := fun W h => (h.cell (two_at hcell).1 1).trans (two_at hcell).2.2.1
        have HCB := hideIt hcb
        clear hbk hq hq2 hcell hcb
        go_wp2_with fail
        refine (HOK.out _ _ (by unfold May; omega)).mono ?_
        rintro e w2 ⟨rfl, hw⟩
        have HB := hideIt (show After w1 w2 by rw [hw]; exact (HA.out.alloc _).alloc _)
        have e2 := HCB.out w2 (by rw [hw]; first | exact After.rfl | exact After.rfl.alloc _)
        clear hw HCB
        go_wp2
        go_roundw
        case rel => exact ⟨q', by have := HQ.out; omega, congrArg (Value.int .i64) (by have := HQ.out; omega), HB.out⟩
        case measure => simp [intOf]
      · have e0 := blk_cell (i := 4) (v := .int .i64 1000) hbk rfl
        have e1 := blk_cell (i := 5) (v := .int .i64 0) hbk rfl
        have hcell := two_new wr 37 (.int .i64 1000) (.int .i64 0)
        have hcb : ∀ W, After (wr.alloc (.cells #[.int .i64 1000, .int .i64 0] 37)) W → W.cell? ⟨wr.heap.size, 1, none⟩ = some (.int .i64 0) := fun W h => (h.cell (two_at hcell).1 1).trans (two_at hcell).2.2.1
        have HCB := hideIt hcb
        clear hbk hq hq2 hcell hcb
        go_wp2_with fail
        refine (HOK.out _ _ (by unfold May; omega)).mono ?_
        rintro e w2 ⟨rfl, hw⟩
        have HB := hideIt (show After w1 w2 by rw [hw]; exact (HA.out.alloc _).alloc _)
        have e2 := HCB.out w2 (by rw [hw]; first | exact After.rfl | exact After.rfl.alloc _)
        clear hw HCB
        go_wp2
        go_roundw
        case rel => exact ⟨q', by have := HQ.out; omega, congrArg (Value.int .i64) (by have := HQ.out; omega), HB.out⟩
        case measure => simp [intOf]
      · have e0 := blk_cell (i := 6) (v := .int .i64 1001) hbk rfl
        have e1 := blk_cell (i := 7) (v := .int .i64 2) hbk rfl
        have hcell := two_new wr 37 (.int .i64 1001) (.int .i64 2)
        have hcb : ∀ W, After (wr.alloc (.cells #[.int .i64 1001, .int .i64 2] 37)) W → W.cell? ⟨wr.heap.size, 1, none⟩ = some (.int .i64 2) := fun W h => (h.cell (two_at hcell).1 1).trans (two_at hcell).2.2.1
        have HCB := hideIt hcb
        clear hbk hq hq2 hcell hcb
        go_wp2_with fail
        refine (HNO.out _ _ (by unfold May; omega)).mono ?_
        rintro e w2 ⟨rfl, hw⟩
        have HB := hideIt (show After w1 w2 by rw [hw]; exact HA.out.alloc _)
        have e2 := HCB.out w2 (by rw [hw]; first | exact After.rfl | exact After.rfl.alloc _)
        clear hw HCB
        go_wp2
        go_roundw
        case rel => exact ⟨q', by have := HQ.out; omega, congrArg (Value.int .i64) (by have := HQ.out; omega), HB.out⟩
        case measure => simp [intOf]
      · have e0 := blk_cell (i := 8) (v := .int .i64 (-1)) hbk rfl
        have e1 := blk_cell (i := 9) (v := .int .i64 2) hbk rfl
        have hcell := two_new wr 37 (.int .i64 (-1)) (.int .i64 2)
        have hcb : ∀ W, After (wr.alloc (.cells #[.int .i64 (-1), .int .i64 2] 37)) W → W.cell? ⟨wr.heap.size, 1, none⟩ = some (.int .i64 2) := fun W h => (h.cell (two_at hcell).1 1).trans (two_at hcell).2.2.1
        have HCB := hideIt hcb
        clear hbk hq hq2 hcell hcb
        go_wp2_with fail
        refine (HNO.out _ _ (by unfold May; omega)).mono ?_
        rintro e w2 ⟨rfl, hw⟩
        have HB := hideIt (show After w1 w2 by rw [hw]; exact HA.out.alloc _)
        have e2 := HCB.out w2 (by rw [hw]; first | exact After.rfl | exact After.rfl.alloc _)
        clear hw HCB
        go_wp2
        go_roundw
        case rel => exact ⟨q', by have := HQ.out; omega, congrArg (Value.int .i64) (by have := HQ.out; omega), HB.out⟩
        case measure => simp [intOf]
      · have e0 := blk_cell (i := 10) (v := .int .i64 (-9223372036854775808)) hbk rfl
        have e1 := blk_cell (i := 11) (v := .int .i64 2) hbk rfl
        have hcell := two_new wr 37 (.int .i64 (-9223372036854775808)) (.int .i64 2)
        have hcb : ∀ W, After (wr.alloc (.cells #[.int .i64 (-9223372036854775808), .int .i64 2] 37)) W → W.cell? ⟨wr.heap.size, 1, none⟩ = some (.int .i64 2) := fun W h => (h.cell (two_at hcell).1 1).trans (two_at hcell).2.2.1
        have HCB := hideIt hcb
        clear hbk hq hq2 hcell hcb
        go_wp2_with fail
        refine (HNO.out _ _ (by unfold May; omega)).mono ?_
        rintro e w2 ⟨rfl, hw⟩
        have HB := hideIt (show After w1 w2 by rw [hw]; exact HA.out.alloc _)
        have e2 := HCB.out w2 (by rw [hw]; first | exact After.rfl | exact After.rfl.alloc _)
        clear hw HCB
        go_wp2
        go_roundw
        case rel => exact ⟨q', by have := HQ.out; omega, congrArg (Value.int .i64) (by have := HQ.out; omega), HB.out⟩
        case measure => simp [intOf]
    · obtain rfl : q = 6 := by omega
      have z0 : (wr.alloc (.cells #[.int .i64 0, .pointer none] 42)).heap[wr.heap.size]? = some (.cells #[.int .i64 0, .pointer none] 42 (0, 0)) := heap_alloc_new wr _
      have HZ := hideIt z0
      have HA1 := hideIt ((A1.out.trans HA.out).alloc (.cells #[.int .i64 0, .pointer none] 42))
      clear z0 hq hq2 af
      go_wp2_with fail
      refine (irPush_none (irNone_nil _) _).mono ?_
      rintro e w' ⟨rfl, rfl⟩
      go_wp2_with fail
      refine (irPush_none (irNone_zero HZ.out) _).mono ?_
      rintro e w' ⟨rfl, rfl⟩
      go_wp2_with fail
      refine (irPush_none (irNone_zero HZ.out) _).mono ?_
      rintro e w' ⟨rfl, rfl⟩
      obtain ⟨W, hW⟩ : ∃ W, W = wr.alloc (.cells #[.int .i64 0, .pointer none] 42) := ⟨_, rfl⟩
      have HA2 := hideIt (show After w W by rw [hW]; exact HA1.out)
      rw [← hW]
      clear HZ HA1 HA hW
      have HW := hideIt (works_any W)
      go_wp2_with fail
      refine HW.out.mono ?_
      rintro e y2 ⟨rfl, c2⟩
      have HA3 := hideIt (HA2.out.trans c2)
      clear c2 HA2 HW
      have HR := hideIt (run_lit (w := y2) 1 1 rfl (by unfold May; omega) #[.int .i64 0, .int .i64 499, .int .i64 500, .int .i64 (-500)] [0, 499, 500, -500] [0, 0, 1, 0] 4 rfl rfl slws_a (by decide))
      go_wp2_with fail
      refine HR.out.mono ?_
      rintro e x3 ⟨ra3, rc3, rfl, ri, a3⟩
      have HB3 := hideIt (HA3.out.trans a3)
      have HE := hideIt (eq_lit (w := x3) (c := rc3) #[.int .i64 0, .int .i64 0, .int .i64 1, .int .i64 0] [0, 0, 1, 0] 4 rfl rfl ri (by decide))
      clear ri a3 HA3 HR
      go_wp2_with fail
      refine HE.out.mono ?_
      rintro e y3 ⟨rfl, c3⟩
      have HA4 := hideIt (HB3.out.trans c3)
      clear c3 HB3 HE
      have HR := hideIt (run_lit (w := y3) 500 500 rfl (by unfold May; omega) #[.int .i64 1099511627776, .int .i64 (-1099511627776)] [1099511627776, -1099511627776] [2147483647, 0] 2 rfl rfl slws_b (by decide))
      go_wp2_with fail
      refine HR.out.mono ?_
      rintro e x4 ⟨ra4, rc4, rfl, ri, a4⟩
      have HB4 := hideIt (HA4.out.trans a4)
      have HE := hideIt (eq_lit (w := x4) (c := rc4) #[.int .i64 2147483647, .int .i64 0] [2147483647, 0] 2 rfl rfl ri (by decide))
      clear ri a4 HA4 HR
      go_wp2_with fail
      refine HE.out.mono ?_
      rintro e y4 ⟨rfl, c4⟩
      have HA5 := hideIt (HB4.out.trans c4)
      clear c4 HB4 HE
      have HR := hideIt (run_lit (w := y4) 1000 1000 rfl (by unfold May; omega) #[.int .i64 5, .int .i64 (-5), .int .i64 5] [5, -5, 5] [5, -5, 5] 3 rfl rfl slws_c (by decide))
      go_wp2_with fail
      refine HR.out.mono ?_
      rintro e x5 ⟨ra5, rc5, rfl, ri, a5⟩
      have HB5 := hideIt (HA5.out.trans a5)
      have HE := hideIt (eq_lit (w := x5) (c := rc5) #[.int .i64 5, .int .i64 (-5), .int .i64 5] [5, -5, 5] 3 rfl rfl ri (by decide))
      clear ri a5 HA5 HR
      go_wp2_with fail
      refine HE.out.mono ?_
      rintro e y5 ⟨rfl, c5⟩
      have HA6 := hideIt (HB5.out.trans c5)
      clear c5 HB5 HE
      go_wp2
      go_ret
      exact ⟨rfl, HA6.out⟩
end Go.Proofs.Ytlfaphceeclphaa
