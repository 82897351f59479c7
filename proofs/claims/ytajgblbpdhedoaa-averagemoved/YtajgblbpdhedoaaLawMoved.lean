/-
  AverageMoved.
-/
import Derived.Test.YtajgblbpdhedoaaLawBetween
import Derived.Test.YtajgblbpdhedoaaDuo
namespace Go.Proofs.Ytajgblbpdhedoaa
open Go.RowKit
set_option maxRecDepth 8000
/-- A number up to 2^29 either way, out of any. -/
def vv (z : Int) : Int := ((broughtTo z 1073741824 : Nat) : Int) - 536870912
theorem vv_le (z : Int) : -536870912 ≤ vv z ∧ vv z ≤ 536870911 := by
  have := broughtTo_lt z (m := 1073741824) (by omega)
  unfold vv
  omega
def mv (zs : List Int) (d : Int) (j : Nat) : List Int := (List.range j).map (fun i => vv (zs.getD i 0) + d)
theorem mv_length (zs : List Int) (d : Int) (j : Nat) : (mv zs d j).length = j := by simp [mv]
theorem mv_succ (zs : List Int) (d : Int) (j : Nat) : mv zs d (j + 1) = mv zs d j ++ [vv (zs.getD j 0) + d] := by
  unfold mv
  rw [List.range_succ, List.map_append]
  rfl
theorem mv_moved (zs : List Int) (d : Int) (j : Nat) : mv zs d j = (mv zs 0 j).map (fun x => x + d) := by
  unfold mv
  rw [List.map_map]
  apply List.map_congr_left
  intro i _
  show vv (zs.getD i 0) + d = vv (zs.getD i 0) + 0 + d
  omega
theorem mv_fit (zs : List Int) {d : Int} (h1 : -536870912 ≤ d) (h2 : d ≤ 536870912) (j : Nat) : Fit (mv zs d j) := fun x hx => by
  obtain ⟨i, _, rfl⟩ := List.mem_map.1 hx
  have := vv_le (zs.getD i 0)
  omega
theorem clamps_fit {xs : List Int} (h : Fit xs) : clamps xs = xs := by
  unfold clamps
  conv => rhs; rw [← List.map_id xs]
  apply List.map_congr_left
  intro x hx
  have := h x hx
  unfold clampZ
  simp only [id]
  omega
theorem meanZ_moved {xs : List Int} (h : xs.length % 2 = 1) (d : Int) : meanZ (xs.map (fun x => x + d)) = meanZ xs + d := by
  unfold meanZ
  rw [sumZ_moved, List.length_map, near_odd _ _ h]
theorem avg_moved {N : Nat} (hN : N % 2 = 1) {zs : List Int} {d : Int} (h1 : -536870912 ≤ d) (h2 : d ≤ 536870912) {i k : Nat} (hi : i < k) (hNi : N ≤ i + 1) : avg N (mv zs d k) i = avg N (mv zs 0 k) i + d := by
  unfold avg
  have f1 := mv_fit zs h1 h2 k
  have f2 := mv_fit zs (d := 0) (by omega) (by omega) k
  rw [clamps_fit (f1.take (i + 1)), clamps_fit (f2.take (i + 1)), mv_moved zs d k, ← List.map_take]
  unfold lastN
  rw [List.length_map, ← List.map_drop, meanZ_moved]
  rw [List.length_drop, List.length_take, mv_length]
  omega
theorem avg_one {zs : List Int} {i k : Nat} (hi : i < k) : avg 1 (mv zs 0 k) i = (mv zs 0 k).getD i 0 := by
  unfold avg
  have f2 := mv_fit zs (d := 0) (by omega) (by omega) k
  have hl := mv_length zs 0 k
  generalize mv zs 0 k = xs at *
  rw [clamps_fit (f2.take (i + 1)), List.take_succ_eq_append_getElem (by omega)]
  unfold lastN
  rw [List.length_append, List.length_singleton, Nat.add_sub_cancel, List.drop_left]
  unfold meanZ
  rw [show sumZ [xs[i]'(by omega)] = xs[i]'(by omega) by simp [sumZ], List.length_singleton, near_one, getD_at (by omega)]
theorem avgs_one (zs : List Int) (k : Nat) : avgs 1 (mv zs 0 k) k = mv zs 0 k := by
  apply List.ext_getElem?
  intro i
  by_cases hi : i < k
  · rw [avgs_at 1 _ hi, avg_one hi, getD_at (by rw [mv_length]; exact hi), List.getElem?_eq_getElem (by rw [mv_length]; exact hi)]
  · rw [List.getElem?_eq_none (by rw [avgs_length]; omega), List.getElem?_eq_none (by rw [mv_length]; omega)]
/-- An odd n that may be, out of any number. -/
def oddN (n : Int) : Nat := 1 + 2 * broughtTo n 8
theorem oddN_may (n : Int) : May (oddN n : Nat) ∧ oddN n % 2 = 1 := by
  have := broughtTo_lt n (m := 8) (by omega)
  unfold May oddN
  omega
theorem avg_fits {N : Nat} (hN : 0 < N) (zs : List Int) {i : Nat} (hi : i < zs.length) : -2147483647 ≤ avg N zs i ∧ avg N zs i ≤ 2147483647 := by
  unfold avg
  refine mean_fit ?_ ((Fit.clamps _).drop _)
  rw [lastN_length, clamps_length, List.length_take]
  omega
theorem bring30 (i : Int) (h1 : -9223372036854775808 ≤ i) (h2 : i ≤ 9223372036854775807) :
    ∃ b : Nat, (b : Int) < 1073741824 ∧ (b : Int) - 536870912 = vv i ∧ ∀ w, Calls Try.prog 13 #[.int .i64 i, .int .i64 1073741824] w fun e w' => e = .returned (.int .i64 (b : Int)) ∧ w' = w := by
  refine ⟨broughtTo i 1073741824, ?_, rfl, fun w => bring_any i 1073741824 w h1 h2 (by omega) (by omega)⟩
  have := broughtTo_lt i (m := 1073741824) (by omega)
  omega
set_option maxHeartbeats 4000000 in
theorem law_moved (w : World) (n : Int) (h1 : -9223372036854775808 ≤ n) (h2 : n ≤ 9223372036854775807) (a : Option Addr) (k c : Nat) (zs : List Int) (hl : IRow w a k zs) (hz : ∀ z ∈ zs, -9223372036854775808 ≤ z ∧ z ≤ 9223372036854775807) (hk : k ≤ 17592186043904) (by_ : Int) (h3 : -9223372036854775808 ≤ by_) (h4 : by_ ≤ 9223372036854775807) :
    Calls Try.prog 6 #[.int .i64 n, .slice a k c, .int .i64 by_] w fun e w' => e = .returned (.bool true) ∧ After w w' := by
  have HW := hideIt (works_any w)
  have HO := hideIt (fun W => bring_any n 8 W h1 h2 (by omega) (by omega))
  obtain ⟨b2, n5, hD, hO2⟩ := bring30 by_ h3 h4
  have HO2 := hideIt hO2
  obtain ⟨hmay, hodd⟩ := oddN_may n
  have hN : ((oddN n : Nat) : Int) = 1 + 2 * ((broughtTo n 8 : Nat) : Int) := by unfold oddN; omega
  have hbl := broughtTo_lt n (m := 8) (by omega)
  have hdl := vv_le by_
  generalize vv by_ = D at *
  generalize broughtTo n 8 = b1 at *
  generalize oddN n = N at *
  have hlen := hl.1
  have HZB := hideIt (show ∀ i, i < k → -9223372036854775808 ≤ zs.getD i 0 ∧ zs.getD i 0 ≤ 9223372036854775807 from fun i hi => hz _ (by rw [getD_at (by omega)]; exact List.getElem_mem _))
  have HM := hideIt (And.intro hmay hodd)
  have n1 : (1 : Int) ≤ (N : Int) := hmay.1
  have n2 : (N : Int) ≤ 15 := hmay.2
  have n3 : 1 + 2 * (b1 : Int) = (N : Int) := hN.symm
  have n4 : (b1 : Int) < 8 := by omega
  have HL := hideIt hl
  have k0 : (k : Int) ≤ 17592186043904 := by omega
  obtain ⟨d1, d2⟩ := hdl
  clear h1 h2 h3 h4 hmay hodd hl hN hbl hz hlen hO2
  go_enter Try.func6, Try.ntmps6
  go_wp2_with fail
  refine HW.out.mono ?_
  rintro e w1 ⟨rfl, a1⟩
  have A1 := hideIt a1
  clear a1 HW
  go_wp2_with fail
  refine (HO.out _).mono ?_
  rintro e w' ⟨rfl, rfl⟩
  go_wp2_with fail
  refine (HO2.out _).mono ?_
  rintro e w' ⟨rfl, rfl⟩
  go_wp2_with fail
  clear HO HO2 n3 n4 n5 hD
  go_loopw [7, 8, 9] (fun o o2 i wr => ∃ j : Nat, j ≤ k ∧ i = .int .i64 j ∧ Duo wr w.heap.size o o2 (mv zs 0 j) (mv zs D j) ∧ After w wr) (fun _ _ i _ => k - (intOf i).toNat)
  case atStart => exact ⟨0, Nat.zero_le _, rfl, Duo.nil _ _, A1.out⟩
  case round =>
    obtain ⟨j, hj, rfl, duo, af⟩ := hrel
    by_cases hjk : j < k
    · have j1 : (j : Int) < (k : Int) := by omega
      obtain ⟨b, off, rfl, -, e0⟩ := (HL.out.after af).cellAt hjk
      have hs := mv_succ zs 0 j
      have hs2 := mv_succ zs D j
      have hzb := HZB.out j hjk
      have hvl := vv_le (zs.getD j 0)
      obtain ⟨b3, c1, hv, hC⟩ := bring30 (zs.getD j 0) hzb.1 hzb.2
      have HC := hideIt hC
      rw [Int.add_zero] at hs
      generalize vv (zs.getD j 0) = x at *
      generalize zs.getD j 0 = z at *
      obtain ⟨c2, c3⟩ := hvl
      have duo2 := duo.after (After.rfl.alloc (.cells #[.int .i64 x] 3))
      have hrow : IRow (wr.alloc (.cells #[.int .i64 x] 3)) (some ⟨wr.heap.size, 0, none⟩) 1 [x] := lit_irow (heap_alloc_new wr _) rfl rfl
      have HO := hideIt duo2
      have HR := hideIt hrow
      have HA := hideIt (And.intro af (And.intro hs hs2))
      have HB := hideIt (show w.heap.size ≤ (wr.alloc (.cells #[.int .i64 x] 3)).heap.size by have := af.size; simp; omega)
      have HZ := hideIt (show (mv zs 0 j).length + 1 ≤ 17592186044416 by rw [mv_length]; omega)
      clear duo2 hrow duo hs hs2 af hzb hC
      go_wp2_with (first
        | (go_at_call 13; refine (HC.out _).mono ?_; rintro e w' ⟨rfl, rfl⟩)
        | (at_builtin; refine app_duo rfl (.tmp 36) (.tmp 38) rfl w.heap.size _ _ (mv zs 0 j) (mv zs D j) rfl HO.out ⟨_, 0, none⟩ x rfl HR.out HZ.out HB.out ?_))
      intro v3 w3 d3 b3'
      rw [← HA.out.2.1] at d3
      have a3 : After w w3 := HA.out.1.then ((After.rfl.alloc _).but.then b3' (fun i _ t => t)) (fun i hi t => by have : w.heap.size ≤ i := t; omega)
      have duo4 := d3.after (After.rfl.alloc (.cells #[.int .i64 (x + D)] 3))
      have hrow : IRow (w3.alloc (.cells #[.int .i64 (x + D)] 3)) (some ⟨w3.heap.size, 0, none⟩) 1 [x + D] := lit_irow (heap_alloc_new w3 _) rfl rfl
      have HO4 := hideIt duo4
      have HR4 := hideIt hrow
      have HB4 := hideIt (show w.heap.size ≤ (w3.alloc (.cells #[.int .i64 (x + D)] 3)).heap.size by have := a3.size; simp; omega)
      have HZ4 := hideIt (show (mv zs D j).length + 1 ≤ 17592186044416 by rw [mv_length]; omega)
      have HA4 := hideIt a3
      clear d3 b3' a3 duo4 hrow HR HO HB HZ e0 hv c1
      go_wp2_with (at_builtin; refine app_duo2 rfl (.tmp 40) (.tmp 44) rfl w.heap.size _ _ (mv zs 0 (j + 1)) (mv zs D j) rfl HO4.out ⟨_, 0, none⟩ (x + D) rfl HR4.out HZ4.out HB4.out ?_)
      intro v5 w5 d5 b5
      rw [← HA.out.2.2] at d5
      have HF := hideIt (And.intro d5 (HA4.out.then ((After.rfl.alloc _).but.then b5 (fun i _ t => t)) (fun i hi t => by have : w.heap.size ≤ i := t; omega)))
      clear d5 b5
      go_wp2
      go_roundw
      case rel => exact ⟨j + 1, by omega, by go_num, HF.out⟩
      case measure => simp [intOf]; omega
    · obtain rfl : j = k := by omega
      have j1 : ¬ (j : Int) < (j : Int) := by omega
      obtain ⟨ta, tc, rfl, ti, -, -, -⟩ := own_irow duo.fst
      obtain ⟨ua, uc, rfl, ui, -, -, -⟩ := own_irow duo.snd
      rw [mv_length, mv_length]
      rw [mv_length] at ti
      rw [mv_length] at ui
      have R1 := hideIt (run_any wr N HM.out.1 _ j tc _ ti (by omega))
      have R2 := hideIt (fun W (h : After wr W) => run_any W N HM.out.1 _ j uc _ (ui.after h) (by omega))
      have R3 := hideIt (fun W (h : After wr W) => run_any W 1 (by unfold May; omega) _ j tc _ (ti.after h) (by omega))
      have HAF := hideIt af
      have HT := hideIt ti
      have hne : ((j : Int) != (j : Int)) = false := by simp
      clear duo af ti ui
      go_wp2_with fail
      refine R1.out.mono ?_
      rintro e w5 ⟨u5, rfl, o5, a5⟩
      obtain ⟨pa, pc, rfl, i5, -, -, -⟩ := own_irow o5
      rw [avgs_length] at i5 ⊢
      have I5 := hideIt (And.intro i5 a5)
      clear o5 i5 a5 R1
      go_wp2_with fail
      refine (R2.out _ I5.out.2).mono ?_
      rintro e w6 ⟨u6, rfl, o6, a6⟩
      obtain ⟨qa, qc, rfl, i6, -, -, -⟩ := own_irow o6
      rw [avgs_length] at i6 ⊢
      have I6 := hideIt (And.intro i6 a6)
      clear o6 i6 a6 R2
      go_wp2_with fail
      refine (R3.out _ (I5.out.2.trans I6.out.2)).mono ?_
      rintro e w7 ⟨u7, rfl, o7, a7⟩
      obtain ⟨ra, rc, rfl, i7, -, -, -⟩ := own_irow o7
      rw [avgs_length] at i7 ⊢
      rw [avgs_one] at i7
      have hw7 : After wr w7 := (I5.out.2.trans I6.out.2).trans a7
      have HQ := hideIt (fun c c' => eqInts_same w7 _ _ j c c' _ i7 (HT.out.after hw7) (by omega))
      have J5 := hideIt (I5.out.1.after (I6.out.2.trans a7))
      have J6 := hideIt (I6.out.1.after a7)
      have HA7 := hideIt (HAF.out.trans hw7)
      clear o7 i7 a7 hw7 R3 I5 I6
      go_wp2_with (go_at_call 17; refine (HQ.out _ _).mono ?_; rintro e w8 ⟨rfl, a8⟩)
      have K5 := hideIt (J5.out.after a8)
      have K6 := hideIt (J6.out.after a8)
      have HA8 := hideIt (HA7.out.trans a8)
      clear a8 HQ J5 J6 HA7 hne
      go_loopw [14] (fun i wr => ∃ q : Nat, N ≤ q + 1 ∧ (q : Int) ≤ 17592186044416 ∧ i = .int .i64 q ∧ Dr w8 wr) (fun i _ => j - (intOf i).toNat)
      case atStart => exact ⟨N - 1, by omega, by omega, by rw [show ((N - 1 : Nat) : Int) = (N : Int) - 1 by omega], Dr.rfl⟩
      case round =>
        obtain ⟨q, hq1, hq2, rfl, dr⟩ := hrel
        by_cases hqj : q < j
        · have i1 : (q : Int) < (j : Int) := by omega
          obtain ⟨b5, f5, rfl, -, e5⟩ := (K5.out.after dr.after).cellAt hqj
          obtain ⟨b6, f6, rfl, -, e6⟩ := (K6.out.after dr.after).cellAt hqj
          rw [avgs_getD hqj] at e5 e6
          rw [avg_moved HM.out.2 d1 (by omega) hqj hq1] at e6
          have hx5 := avg_fits (N := N) (by omega) (mv zs 0 j) (i := q) (by rw [mv_length]; exact hqj)
          generalize avg N (mv zs 0 j) q = x at *
          have hxx : ((x + D) != (x + D)) = false := by simp
          have HDR := hideIt dr
          clear dr
          go_wp2
          go_region
          go_wp2
          go_roundw
          case rel => exact ⟨q + 1, by omega, by omega, by go_num, HDR.out.drew⟩
          case measure => simp [intOf]; omega
        · have i1 : ¬ (q : Int) < (j : Int) := by omega
          have HF := hideIt (HA8.out.trans dr.after)
          clear dr
          go_wp2
          go_ret
          exact ⟨rfl, HF.out⟩
end Go.Proofs.Ytajgblbpdhedoaa
