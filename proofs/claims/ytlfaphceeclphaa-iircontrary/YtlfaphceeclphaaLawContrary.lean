/-
  IirContrary.
-/
import Derived.Test.YtlfaphceeclphaaLawBetweenI
namespace Go.Proofs.Ytlfaphceeclphaa
open Go.RowKit
set_option maxRecDepth 8000
/-- The contrary numbers. -/
def ct (zs : List Int) (j : Nat) : List Int := (List.range j).map (fun i => -clampZ (zs.getD i 0))
theorem ct_length (zs : List Int) (j : Nat) : (ct zs j).length = j := by simp [ct]
theorem ct_succ (zs : List Int) (j : Nat) : ct zs (j + 1) = ct zs j ++ [-clampZ (zs.getD j 0)] := by
  unfold ct
  rw [List.range_succ, List.map_append]
  rfl
theorem ct_getD {zs : List Int} {i j : Nat} (h : i < j) : (ct zs j).getD i 0 = -clampZ (zs.getD i 0) := by
  simp [ct, h]
theorem clampZ_neg (z : Int) : clampZ (-clampZ z) = -clampZ z := by
  unfold clampZ
  omega
theorem slw_contrary (N : Nat) {zs : List Int} {k : Nat} (hk : zs.length = k) {i : Nat} (hi : i < k) : slw N (ct zs k) i = - slw N zs i := by
  induction i with
  | zero => rw [slw_zero N (by rw [ct_length]; exact hi), slw_zero N (by omega), ct_getD hi, clampZ_neg]
  | succ i ih => rw [slw_succ N (by rw [ct_length]; exact hi), slw_succ N (by omega), ih (by omega), ct_getD hi, clampZ_neg, nx_contrary]
set_option maxHeartbeats 4000000 in
theorem law_contrary (w : World) (n : Int) (h1 : -9223372036854775808 ≤ n) (h2 : n ≤ 9223372036854775807) (a : Option Addr) (k c : Nat) (zs : List Int) (hl : IRow w a k zs) (hk : k ≤ 17592186044416) :
    Calls Try.prog 6 #[.int .i64 n, .slice a k c] w fun e w' => e = .returned (.bool true) ∧ After w w' := by
  have HW := hideIt (works_any w)
  have HO := hideIt (fun W => bring_any n 1000 W h1 h2 (by omega) (by omega))
  have hmay := anyN_may n
  have hN : ((anyN n : Nat) : Int) = 1 + ((broughtTo n 1000 : Nat) : Int) := by unfold anyN; omega
  have hbl := broughtTo_lt n (m := 1000) (by omega)
  generalize broughtTo n 1000 = b0 at *
  generalize anyN n = N at *
  have HL := hideIt hl
  have HK := hideIt hk
  have HM := hideIt hmay
  have k0 : (k : Int) ≤ 17592186044416 := by omega
  have n1 : (1 : Int) ≤ (N : Int) := hmay.1
  have n2 : (N : Int) ≤ 1000 := hmay.2
  have n3 : 1 + (b0 : Int) = (N : Int) := hN.symm
  have n4 : (b0 : Int) < 1000 := by omega
  clear hl hk h1 h2 hmay hN hbl
  go_enter Try.func6, Try.ntmps6
  go_wp2_with fail
  refine HW.out.mono ?_
  rintro e w1 ⟨rfl, a1⟩
  have A1 := hideIt a1
  clear a1 HW
  go_wp2_with (go_at_call 13; refine (HO.out _).mono ?_; rintro e w' ⟨rfl, rfl⟩)
  clear HO n3 n4
  go_loopw [5, 6] (fun o i wr => ∃ j : Nat, j ≤ k ∧ i = .int .i64 j ∧ OInts wr w.heap.size o (ct zs j) ∧ After w wr) (fun _ i _ => k - (intOf i).toNat)
  case atStart => exact ⟨0, Nat.zero_le _, rfl, own_nil _ _, A1.out⟩
  case round =>
    obtain ⟨j, hj, rfl, own, af⟩ := hrel
    by_cases hjk : j < k
    · have i1 : (j : Int) < (k : Int) := by omega
      obtain ⟨bz, offz, rfl, hbz, e1⟩ := (HL.out.after af).cellAt hjk
      have hs := ct_succ zs j
      have hcz := clampZ_le (zs.getD j 0)
      have HC := hideIt (fun W => clamp_any (zs.getD j 0) W)
      generalize zs.getD j 0 = z at *
      generalize clampZ z = y at *
      have own2 := own_after own (After.rfl.alloc (.cells #[.int .i64 (-y)] 3))
      have hrow : IRow (wr.alloc (.cells #[.int .i64 (-y)] 3)) (some ⟨wr.heap.size, 0, none⟩) 1 [-y] := lit_irow (heap_alloc_new wr _) rfl rfl
      have HO2 := hideIt own2
      have HR := hideIt hrow
      have HB := hideIt (show w.heap.size ≤ (wr.alloc (.cells #[.int .i64 (-y)] 3)).heap.size by have := af.size; simp; omega)
      have HZ := hideIt (show (ct zs j).length + 1 ≤ 17592186044416 by rw [ct_length]; omega)
      have HS := hideIt (And.intro own (And.intro af hs))
      clear own own2 af hrow hs
      go_wp2_with (first
        | (go_at_call 15; refine (HC.out _).mono ?_; rintro e w' ⟨rfl, rfl⟩)
        | (at_builtin; refine app_ints rfl (.tmp 21) (.tmp 28) rfl w.heap.size _ (ct zs j) rfl HO2.out (some ⟨_, 0, none⟩) 1 1 [-y] rfl HR.out (fun h => by cases h) HZ.out HB.out ?_))
      intro v3 w3 o3 b3
      obtain ⟨own, af, hs⟩ := HS.out
      rw [← hs] at o3
      have HF := hideIt (And.intro o3 (af.then ((After.rfl.alloc _).but.then b3 (fun i _ t => t)) (fun i hi t => by have := (own_lt own t).1; omega)))
      clear o3 b3 own af hs
      go_wp2
      go_roundw
      case rel => exact ⟨j + 1, by omega, by go_num, HF.out⟩
      case measure => simp [intOf]; omega
    · obtain rfl : j = k := by omega
      have i1 : ¬ (j : Int) < (j : Int) := by omega
      obtain ⟨ta, tc, rfl, ti, -, -, -⟩ := own_irow own
      rw [ct_length] at ti ⊢
      have R1 := hideIt (run_any wr N HM.out a j c zs (HL.out.after af) HK.out)
      have R2 := hideIt (fun W (h : After wr W) => run_any W N HM.out ta j tc _ (ti.after h) HK.out)
      have HAF := hideIt af
      have HZL := hideIt (show zs.length = j from HL.out.1)
      clear own af ti
      go_wp2_with fail
      refine R1.out.mono ?_
      rintro e w5 ⟨u5, rfl, o5, a5⟩
      obtain ⟨pa, pc, rfl, i5, -, -, -⟩ := own_irow o5
      rw [slws_length] at i5 ⊢
      have I5 := hideIt (And.intro i5 a5)
      clear o5 i5 a5 R1
      go_wp2_with fail
      refine (R2.out _ I5.out.2).mono ?_
      rintro e w6 ⟨u6, rfl, o6, a6⟩
      obtain ⟨qa, qc, rfl, i6, -, -, -⟩ := own_irow o6
      rw [slws_length] at i6 ⊢
      have IA := hideIt (I5.out.1.after a6)
      have IB := hideIt i6
      have HA := hideIt ((HAF.out.trans I5.out.2).trans a6)
      clear o6 i6 a6 R2 I5
      have hne : ((j : Int) != (j : Int)) = false := by simp
      go_wp2_with fail
      go_loopw [9] (fun i wr' => ∃ q : Nat, q ≤ j ∧ i = .int .i64 q ∧ Dr w6 wr') (fun i _ => j - (intOf i).toNat)
      case atStart => exact ⟨0, Nat.zero_le _, rfl, Dr.rfl⟩
      case round =>
        obtain ⟨q, hq, rfl, dr⟩ := hrel
        by_cases hqj : q < j
        · have i2 : (q : Int) < (j : Int) := by omega
          obtain ⟨b5, f5, rfl, -, e5⟩ := (IA.out.after dr.after).cellAt hqj
          obtain ⟨b6, f6, rfl, -, e6⟩ := (IB.out.after dr.after).cellAt hqj
          rw [slws_getD hqj] at e5 e6
          rw [slw_contrary N HZL.out hqj] at e6
          have hfit := slw_fit (p := N) (by omega) (zs := zs) (j := q) (by have := HZL.out; omega)
          generalize slw N zs q = x at *
          have hx : - -x = x := by omega
          have hxx : (x != x) = false := by simp
          have HDR := hideIt dr
          clear dr
          go_wp2
          go_region
          go_wp2
          go_roundw
          case rel => exact ⟨q + 1, by omega, by go_num, HDR.out.drew⟩
          case measure => simp [intOf]; omega
        · have i2 : ¬ (q : Int) < (j : Int) := by omega
          have HD := hideIt (HA.out.trans dr.after)
          clear dr
          go_wp2
          go_ret
          exact ⟨rfl, HD.out⟩
end Go.Proofs.Ytlfaphceeclphaa
