/-
  AverageKnown.
-/
import Derived.Test.YtajgblbpdhedoaaAvT
namespace Go.Proofs.Ytajgblbpdhedoaa
open Go.RowKit
set_option maxRecDepth 8000
theorem avgs_a : avgs 2 [-3, -4, 1099511627776] 3 = [-3, -4, 1073741822] := by decide
theorem avgs_b : avgs 1 [-9223372036854775808, 5] 2 = [-2147483647, 5] := by decide
theorem avgs_c : avgs 15 [2147483647, 2147483647, 2147483647] 3 = [2147483647, 2147483647, 2147483647] := by decide
/-- A list that is run, and the answers held against another list. -/
theorem run_lit {w : World} (N : Nat) (NI : Int) (hN : NI = (N : Int)) (h : May (N : Nat)) (cs : Array Value) (zs ys : List Int) (k : Nat) (hk : k = zs.length) (hz : cs.toList = i64s zs) (hm : avgs N zs k = ys) (hl : k ≤ 100) :
    Calls Try.prog 14 #[.int .i64 NI, .slice (some ⟨w.heap.size, 0, none⟩) k k] (w.alloc (.cells cs 3)) fun e w' => ∃ a c, e = .returned (.slice a k c) ∧ IRow w' a k ys ∧ After w w' := by
  subst hN
  have hrow : IRow (w.alloc (.cells cs 3)) (some ⟨w.heap.size, 0, none⟩) k zs := lit_irow (heap_alloc_new w _) hz hk
  refine (run_any _ N h _ k k _ hrow (by omega)).mono ?_
  rintro e w2 ⟨v, rfl, own, a2⟩
  rw [hm] at own
  obtain ⟨a, c, rfl, ir, -, -, -⟩ := own_irow own
  have hy : ys.length = k := by rw [← hm, avgs_length]
  rw [hy] at ir ⊢
  exact ⟨a, c, rfl, ir, (After.rfl.alloc _).trans a2⟩
theorem eq_lit {w : World} {a : Option Addr} {c : Nat} (cs : Array Value) (ys : List Int) (k : Nat) (hk : k = ys.length) (hz : cs.toList = i64s ys) (ir : IRow w a k ys) (hl : k ≤ 100) :
    Calls Try.prog 17 #[.slice a k c, .slice (some ⟨w.heap.size, 0, none⟩) k k] (w.alloc (.cells cs 3)) fun e w' => e = .returned (.bool true) ∧ After w w' := by
  have hrow : IRow (w.alloc (.cells cs 3)) (some ⟨w.heap.size, 0, none⟩) k ys := lit_irow (heap_alloc_new w _) hz hk
  refine (eqInts_same _ _ _ k c k _ (ir.after (After.rfl.alloc _)) hrow (by omega)).mono ?_
  rintro e w2 ⟨rfl, a2⟩
  exact ⟨rfl, (After.rfl.alloc _).trans a2⟩
set_option maxHeartbeats 4000000 in
theorem law_knownA (w : World) : Calls Try.prog 7 #[] w fun e w' => e = .returned (.bool true) ∧ After w w' := by
  go_enter Try.func7, Try.ntmps7
  go_wp2_with fail
  go_loopw [1] (fun i wr => ∃ q : Nat, q ≤ 23 ∧ i = .int .i64 ((q : Int) - 3) ∧ After w wr) (fun i _ => 20 - (intOf i).toNat + (if intOf i < 0 then (0 - intOf i).toNat else 0))
  case atStart => exact ⟨0, Nat.zero_le _, rfl, After.rfl⟩
  case round =>
    obtain ⟨q, hq, rfl, af⟩ := hrel
    have HA := hideIt af
    clear af
    by_cases hq2 : q < 23
    · have HOK := hideIt (fun n h => avNew_ok wr n h)
      have HNO := hideIt (fun n h => avNew_no wr n h)
      obtain ⟨q', hq'⟩ : ∃ q', q' = q + 1 := ⟨_, rfl⟩
      have HQ := hideIt hq'
      clear hq'
      rcases (by omega : q = 0 ∨ q = 1 ∨ q = 2 ∨ q = 3 ∨ q = 4 ∨ q = 5 ∨ q = 6 ∨ q = 7 ∨ q = 8 ∨ q = 9 ∨ q = 10 ∨ q = 11 ∨ q = 12 ∨ q = 13 ∨ q = 14 ∨ q = 15 ∨ q = 16 ∨ q = 17 ∨ q = 18 ∨ q = 19 ∨ q = 20 ∨ q = 21 ∨ q = 22) with rfl | rfl | rfl | rfl | rfl | rfl | rfl | rfl | rfl | rfl | rfl | rfl | rfl | rfl | rfl | rfl | rfl | rfl | rfl | rfl | rfl | rfl | rfl
      all_goals
        clear hq hq2
        go_wp2_with fail
        first
          | (refine (HOK.out _ (by unfold May; omega)).mono ?_; rintro e w1 ⟨rfl, hw⟩; have HB := hideIt (show After w w1 by rw [hw]; exact HA.out.alloc _); clear hw)
          | (refine (HNO.out _ (by unfold May; omega)).mono ?_; rintro e w1 ⟨rfl, hw⟩; have HB := hideIt (show After w w1 by rw [hw]; exact HA.out); clear hw)
        go_wp2
        go_roundw
        case rel => exact ⟨q', by have := HQ.out; omega, congrArg (Value.int .i64) (by have := HQ.out; omega), HB.out⟩
        case measure => simp [intOf]
    · obtain rfl : q = 23 := by omega
      have z0 : (wr.alloc (.cells (zeroA 0) 42)).heap[wr.heap.size]? = some (.cells (zeroA 0) 42 (0, 0)) := heap_alloc_new wr _
      have HZ := hideIt z0
      have HA1 := hideIt (HA.out.alloc (.cells (zeroA 0) 42))
      clear z0 hq hq2
      go_wp2_with fail
      refine (avPush_none (avNone_nil _) _).mono ?_
      rintro e w' ⟨rfl, rfl⟩
      go_wp2_with fail
      refine (avPush_none (avNone_zero HZ.out) _).mono ?_
      rintro e w' ⟨rfl, rfl⟩
      go_wp2_with fail
      refine (avPush_none (avNone_zero HZ.out) _).mono ?_
      rintro e w' ⟨rfl, rfl⟩
      obtain ⟨W, hW⟩ : ∃ W, W = wr.alloc (.cells (zeroA 0) 42) := ⟨_, rfl⟩
      have HA2 := hideIt (show After w W by rw [hW]; exact HA1.out)
      rw [← hW]
      clear HZ HA1 HA hW
      have HW := hideIt (works_any W)
      go_wp2_with fail
      refine HW.out.mono ?_
      rintro e y2 ⟨rfl, c2⟩
      have HA3 := hideIt (HA2.out.trans c2)
      clear c2 HA2 HW
      have HR := hideIt (run_lit (w := y2) 2 2 rfl (by unfold May; omega) #[.int .i64 (-3), .int .i64 (-4), .int .i64 1099511627776] [-3, -4, 1099511627776] [-3, -4, 1073741822] 3 rfl rfl avgs_a (by decide))
      go_wp2_with fail
      refine HR.out.mono ?_
      rintro e x3 ⟨ra3, rc3, rfl, ri, a3⟩
      have HB3 := hideIt (HA3.out.trans a3)
      have HE := hideIt (eq_lit (w := x3) (c := rc3) #[.int .i64 (-3), .int .i64 (-4), .int .i64 1073741822] [-3, -4, 1073741822] 3 rfl rfl ri (by decide))
      clear ri a3 HA3 HR
      go_wp2_with fail
      refine HE.out.mono ?_
      rintro e y3 ⟨rfl, c3⟩
      have HA4 := hideIt (HB3.out.trans c3)
      clear c3 HB3 HE
      have HR := hideIt (run_lit (w := y3) 1 1 rfl (by unfold May; omega) #[.int .i64 (-9223372036854775808), .int .i64 5] [-9223372036854775808, 5] [-2147483647, 5] 2 rfl rfl avgs_b (by decide))
      go_wp2_with fail
      refine HR.out.mono ?_
      rintro e x4 ⟨ra4, rc4, rfl, ri, a4⟩
      have HB4 := hideIt (HA4.out.trans a4)
      have HE := hideIt (eq_lit (w := x4) (c := rc4) #[.int .i64 (-2147483647), .int .i64 5] [-2147483647, 5] 2 rfl rfl ri (by decide))
      clear ri a4 HA4 HR
      go_wp2_with fail
      refine HE.out.mono ?_
      rintro e y4 ⟨rfl, c4⟩
      have HA5 := hideIt (HB4.out.trans c4)
      clear c4 HB4 HE
      have HR := hideIt (run_lit (w := y4) 15 15 rfl (by unfold May; omega) #[.int .i64 2147483647, .int .i64 2147483647, .int .i64 2147483647] [2147483647, 2147483647, 2147483647] [2147483647, 2147483647, 2147483647] 3 rfl rfl avgs_c (by decide))
      go_wp2_with fail
      refine HR.out.mono ?_
      rintro e x5 ⟨ra5, rc5, rfl, ri, a5⟩
      have HB5 := hideIt (HA5.out.trans a5)
      have HE := hideIt (eq_lit (w := x5) (c := rc5) #[.int .i64 2147483647, .int .i64 2147483647, .int .i64 2147483647] [2147483647, 2147483647, 2147483647] 3 rfl rfl ri (by decide))
      clear ri a5 HA5 HR
      go_wp2_with fail
      refine HE.out.mono ?_
      rintro e y5 ⟨rfl, c5⟩
      have HA6 := hideIt (HB5.out.trans c5)
      clear c5 HB5 HE
      go_wp2
      go_ret
      exact ⟨rfl, HA6.out⟩
end Go.Proofs.Ytajgblbpdhedoaa
