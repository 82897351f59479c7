/-
  MedianKnown.
-/
import Derived.Test.YtjddkoadmoagjaaMdT
namespace Go.Proofs.Ytjddkoadmoagjaa
open Go.RowKit
set_option maxRecDepth 8000
def longZ : List Int := [15, 14, 13, 12, 11, 10, 9, 8, 7, 6, 5, 4, 3, 2, 1, 0, 0]
theorem med_is {n : Nat} {zs : List Int} {i : Nat} {x : Int} (h : 0 < (lastN n (clamps (zs.take (i + 1)))).length) (hx : less x (lastN n (clamps (zs.take (i + 1)))) ≤ place (lastN n (clamps (zs.take (i + 1)))).length ∧ place (lastN n (clamps (zs.take (i + 1)))).length < noMore x (lastN n (clamps (zs.take (i + 1))))) : med n zs i = x := (mid_iff h x).1 hx
theorem long13 : (meds 15 longZ 17).getD 13 0 = 8 := (show med 15 longZ 13 = 8 from med_is (by decide) (by decide))
theorem long14 : (meds 15 longZ 17).getD 14 0 = 8 := (show med 15 longZ 14 = 8 from med_is (by decide) (by decide))
theorem long16 : (meds 15 longZ 17).getD 16 0 = 6 := (show med 15 longZ 16 = 6 from med_is (by decide) (by decide))
theorem meds_a : meds 1 [4, -9] 2 = [4, -9] := by
  rw [show meds 1 [4, -9] 2 = [med 1 [4, -9] 0, med 1 [4, -9] 1] from rfl, show med 1 [4, -9] 0 = 4 from med_is (by decide) (by decide), show med 1 [4, -9] 1 = -9 from med_is (by decide) (by decide)]
theorem meds_b : meds 5 [1, 2, 3, 4] 4 = [1, 1, 2, 2] := by
  rw [show meds 5 [1, 2, 3, 4] 4 = [med 5 [1, 2, 3, 4] 0, med 5 [1, 2, 3, 4] 1, med 5 [1, 2, 3, 4] 2, med 5 [1, 2, 3, 4] 3] from rfl, show med 5 [1, 2, 3, 4] 0 = 1 from med_is (by decide) (by decide), show med 5 [1, 2, 3, 4] 1 = 1 from med_is (by decide) (by decide), show med 5 [1, 2, 3, 4] 2 = 2 from med_is (by decide) (by decide), show med 5 [1, 2, 3, 4] 3 = 2 from med_is (by decide) (by decide)]
theorem meds_c : meds 1 [-9223372036854775808] 1 = [-2147483647] := by
  rw [show meds 1 [-9223372036854775808] 1 = [med 1 [-9223372036854775808] 0] from rfl, show med 1 [-9223372036854775808] 0 = -2147483647 from med_is (by decide) (by decide)]
/-- A list that is run, and the answers held against another list. -/
theorem run_lit {w : World} (N : Nat) (NI : Int) (hN : NI = (N : Int)) (h : May (N : Nat)) (cs : Array Value) (zs ys : List Int) (k : Nat) (hk : k = zs.length) (hz : cs.toList = i64s zs) (hm : meds N zs k = ys) (hl : k ≤ 100) :
    Calls Try.prog 14 #[.int .i64 NI, .slice (some ⟨w.heap.size, 0, none⟩) k k] (w.alloc (.cells cs 3)) fun e w' => ∃ a c, e = .returned (.slice a k c) ∧ IRow w' a k ys ∧ After w w' := by
  subst hN
  have hrow : IRow (w.alloc (.cells cs 3)) (some ⟨w.heap.size, 0, none⟩) k zs := lit_irow (heap_alloc_new w _) hz hk
  refine (run_any _ N h _ k k _ hrow (by omega)).mono ?_
  rintro e w2 ⟨v, rfl, own, a2⟩
  rw [hm] at own
  obtain ⟨a, c, rfl, ir, -, -, -⟩ := own_irow own
  have hy : ys.length = k := by rw [← hm, meds_length]
  rw [hy] at ir ⊢
  exact ⟨a, c, rfl, ir, (After.rfl.alloc _).trans a2⟩
theorem eq_lit {w : World} {a : Option Addr} {c : Nat} (cs : Array Value) (ys : List Int) (k : Nat) (hk : k = ys.length) (hz : cs.toList = i64s ys) (ir : IRow w a k ys) (hl : k ≤ 100) :
    Calls Try.prog 16 #[.slice a k c, .slice (some ⟨w.heap.size, 0, none⟩) k k] (w.alloc (.cells cs 3)) fun e w' => e = .returned (.bool true) ∧ After w w' := by
  have hrow : IRow (w.alloc (.cells cs 3)) (some ⟨w.heap.size, 0, none⟩) k ys := lit_irow (heap_alloc_new w _) hz hk
  refine (eqInts_same _ _ _ k c k _ (ir.after (After.rfl.alloc _)) hrow (by omega)).mono ?_
  rintro e w2 ⟨rfl, a2⟩
  exact ⟨rfl, (After.rfl.alloc _).trans a2⟩
set_option maxHeartbeats 4000000 in
theorem law_knownM (w : World) : Calls Try.prog 7 #[] w fun e w' => e = .returned (.bool true) ∧ After w w' := by
  go_enter Try.func7, Try.ntmps7
  go_wp2_with fail
  go_loopw [1] (fun i wr => ∃ q : Nat, q ≤ 23 ∧ i = .int .i64 ((q : Int) - 3) ∧ After w wr) (fun i _ => 20 - (intOf i).toNat + (if intOf i < 0 then (0 - intOf i).toNat else 0))
  case atStart => exact ⟨0, Nat.zero_le _, rfl, After.rfl⟩
  case round =>
    obtain ⟨q, hq, rfl, af⟩ := hrel
    have HA := hideIt af
    clear af
    by_cases hq2 : q < 23
    · have HOK := hideIt (fun n h => mdNew_ok wr n h)
      have HNO := hideIt (fun n h => mdNew_no wr n h)
      obtain ⟨q', hq'⟩ : ∃ q', q' = q + 1 := ⟨_, rfl⟩
      have HQ := hideIt hq'
      clear hq'
      rcases (by omega : q = 0 ∨ q = 1 ∨ q = 2 ∨ q = 3 ∨ q = 4 ∨ q = 5 ∨ q = 6 ∨ q = 7 ∨ q = 8 ∨ q = 9 ∨ q = 10 ∨ q = 11 ∨ q = 12 ∨ q = 13 ∨ q = 14 ∨ q = 15 ∨ q = 16 ∨ q = 17 ∨ q = 18 ∨ q = 19 ∨ q = 20 ∨ q = 21 ∨ q = 22) with rfl | rfl | rfl | rfl | rfl | rfl | rfl | rfl | rfl | rfl | rfl | rfl | rfl | rfl | rfl | rfl | rfl | rfl | rfl | rfl | rfl | rfl | rfl
      all_goals
        clear hq hq2
        go_wp2_with fail
        first
          | (refine (HOK.out _ (by unfold May; omega)).mono ?_; rintro e w1 ⟨rfl, hw⟩; have HB := hideIt (show After w w1 by rw [hw]; exact HA.out.alloc _); clear hw)
          | (refine (HNO.out _ (by unfold May; omega)).mono ?_; rintro e w1 ⟨rfl, hw⟩; have HB := hideIt (show After w w1 by rw [hw]; exact HA.out); clear hw)
        go_wp2
        go_roundw
        case rel => exact ⟨q', by have := HQ.out; omega, congrArg (Value.int .i64) (by have := HQ.out; omega), HB.out⟩
        case measure => simp [intOf]
    · obtain rfl : q = 23 := by omega
      have z0 : (wr.alloc (.cells (zeroM 0) 40)).heap[wr.heap.size]? = some (.cells (zeroM 0) 40 (0, 0)) := heap_alloc_new wr _
      have HZ := hideIt z0
      have HA1 := hideIt (HA.out.alloc (.cells (zeroM 0) 40))
      clear z0 hq hq2
      go_wp2_with fail
      refine (mdPush_none (mdNone_nil _) _).mono ?_
      rintro e w' ⟨rfl, rfl⟩
      go_wp2_with fail
      refine (mdPush_none (mdNone_zero HZ.out) _).mono ?_
      rintro e w' ⟨rfl, rfl⟩
      go_wp2_with fail
      refine (mdPush_none (mdNone_zero HZ.out) _).mono ?_
      rintro e w' ⟨rfl, rfl⟩
      obtain ⟨W, hW⟩ : ∃ W, W = wr.alloc (.cells (zeroM 0) 40) := ⟨_, rfl⟩
      have HA2 := hideIt (show After w W by rw [hW]; exact HA1.out)
      rw [← hW]
      clear HZ HA1 HA hW
      have HR := hideIt (run_lit (w := W) 15 15 rfl (by unfold May; omega) #[.int .i64 15, .int .i64 14, .int .i64 13, .int .i64 12, .int .i64 11, .int .i64 10, .int .i64 9, .int .i64 8, .int .i64 7, .int .i64 6, .int .i64 5, .int .i64 4, .int .i64 3, .int .i64 2, .int .i64 1, .int .i64 0, .int .i64 0] longZ (meds 15 longZ 17) 17 rfl rfl rfl (by decide))
      go_wp2_with fail
      refine HR.out.mono ?_
      rintro e w1 ⟨la, lc, rfl, li, a1⟩
      have HL := hideIt (And.intro li (HA2.out.trans a1))
      have HW := hideIt (works_any w1)
      clear li a1 HR HA2
      go_wp2_with fail
      refine HW.out.mono ?_
      rintro e w2 ⟨rfl, a2⟩
      have HL2 := hideIt (And.intro (HL.out.1.after a2) (HL.out.2.trans a2))
      have HR := hideIt (run_lit (w := w2) 1 1 rfl (by unfold May; omega) #[.int .i64 4, .int .i64 (-9)] [4, -9] [4, -9] 2 rfl rfl meds_a (by decide))
      clear a2 HL HW
      go_wp2_with fail
      refine HR.out.mono ?_
      rintro e w3 ⟨ra, rc, rfl, ri, a3⟩
      have HL := hideIt (And.intro (HL2.out.1.after a3) (HL2.out.2.trans a3))
      have HE := hideIt (eq_lit (w := w3) (c := rc) #[.int .i64 4, .int .i64 (-9)] [4, -9] 2 rfl rfl ri (by decide))
      clear ri a3 HL2 HR
      go_wp2_with fail
      refine HE.out.mono ?_
      rintro e w4 ⟨rfl, a4⟩
      have li := HL.out.1.after a4
      obtain ⟨lb, lo, rfl, -, e13⟩ := li.cellAt (i := 13) (by decide)
      obtain ⟨lb', lo', el, -, e14⟩ := li.cellAt (i := 14) (by decide)
      cases el
      obtain ⟨lb', lo', el, -, e16⟩ := li.cellAt (i := 16) (by decide)
      cases el
      rw [long13] at e13
      rw [long14] at e14
      rw [long16] at e16
      have HA4 := hideIt (HL.out.2.trans a4)
      have HR := hideIt (run_lit (w := w4) 5 5 rfl (by unfold May; omega) #[.int .i64 1, .int .i64 2, .int .i64 3, .int .i64 4] [1, 2, 3, 4] [1, 1, 2, 2] 4 rfl rfl meds_b (by decide))
      clear a4 li HL HE
      go_wp2_with fail
      refine HR.out.mono ?_
      rintro e w5 ⟨ra5, rc5, rfl, ri, a5⟩
      have HA5 := hideIt (HA4.out.trans a5)
      have HE := hideIt (eq_lit (w := w5) (c := rc5) #[.int .i64 1, .int .i64 1, .int .i64 2, .int .i64 2] [1, 1, 2, 2] 4 rfl rfl ri (by decide))
      clear ri a5 HA4 HR e13 e14 e16
      go_wp2_with fail
      refine HE.out.mono ?_
      rintro e w6 ⟨rfl, a6⟩
      have HA6 := hideIt (HA5.out.trans a6)
      have HR := hideIt (run_lit (w := w6) 1 1 rfl (by unfold May; omega) #[.int .i64 (-9223372036854775808)] [-9223372036854775808] [-2147483647] 1 rfl rfl meds_c (by decide))
      clear a6 HA5 HE
      go_wp2_with fail
      refine HR.out.mono ?_
      rintro e w7 ⟨ra7, rc7, rfl, ri, a7⟩
      have HA7 := hideIt (HA6.out.trans a7)
      have HE := hideIt (eq_lit (w := w7) (c := rc7) #[.int .i64 (-2147483647)] [-2147483647] 1 rfl rfl ri (by decide))
      clear ri a7 HA6 HR
      go_wp2_with fail
      refine HE.out.mono ?_
      rintro e w8 ⟨rfl, a8⟩
      have HA8 := hideIt (HA7.out.trans a8)
      clear a8 HA7 HE
      go_wp2
      go_ret
      exact ⟨rfl, HA8.out⟩
end Go.Proofs.Ytjddkoadmoagjaa
