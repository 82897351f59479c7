/-
  IirTogether.
-/
import Derived.Test.YtlfaphceeclphaaLawBetweenI
import Derived.Test.YtlfaphceeclphaaDuoL
namespace Go.Proofs.Ytlfaphceeclphaa
open Go.RowKit
set_option maxRecDepth 8000
theorem cons_getD (x : Int) (zs : List Int) (q : Nat) : (x :: zs).getD (q + 1) 0 = zs.getD q 0 := by simp
theorem slw_together {N : Nat} (hN : N ≤ 1000) (x y : Int) {zs : List Int} {q : Nat} (h : q < zs.length) : ab (slw N (x :: zs) (q + 1) - slw N (y :: zs) (q + 1)) ≤ ab (slw N (x :: zs) q - slw N (y :: zs) q) + 1 := by
  have hl : ∀ z : Int, (z :: zs).length = zs.length + 1 := fun z => by simp
  rw [slw_succ N (by rw [hl]; omega), slw_succ N (by rw [hl]; omega), cons_getD, cons_getD]
  exact nx_together hN _ _ _
set_option maxHeartbeats 4000000 in
theorem law_together (w : World) (n : Int) (h1 : -9223372036854775808 ≤ n) (h2 : n ≤ 9223372036854775807) (x0 x1 : Int) (a : Option Addr) (k c : Nat) (zs : List Int) (hl : IRow w a k zs) (hk : k ≤ 17592186043904) (hnil : a = none → k = 0 ∧ c = 0) :
    Calls Try.prog 5 #[.int .i64 n, .agg #[.int .i64 x0, .int .i64 x1], .slice a k c] w fun e w' => e = .returned (.bool true) ∧ After w w' := by
  have a0 : After w (w.alloc (.cells #[.int .i64 x0, .int .i64 x1] 37)) := After.rfl.alloc _
  have hbx : (w.alloc (.cells #[.int .i64 x0, .int .i64 x1] 37)).heap[w.heap.size]? = some (.cells #[.int .i64 x0, .int .i64 x1] 37 (0, 0)) := heap_alloc_new w _
  obtain ⟨w0, hw0⟩ : ∃ w0, w0 = w.alloc (.cells #[.int .i64 x0, .int .i64 x1] 37) := ⟨_, rfl⟩
  rw [← hw0] at a0 hbx
  have HW := hideIt (works_any w0)
  have HO := hideIt (fun W => bring_any n 1000 W h1 h2 (by omega) (by omega))
  have hmay := anyN_may n
  have hN : ((anyN n : Nat) : Int) = 1 + ((broughtTo n 1000 : Nat) : Int) := by unfold anyN; omega
  have hbl := broughtTo_lt n (m := 1000) (by omega)
  generalize broughtTo n 1000 = b0 at *
  generalize anyN n = N at *
  have HL := hideIt hl
  have HM := hideIt hmay
  have HNI := hideIt hnil
  have HBX := hideIt hbx
  have HA0 := hideIt a0
  have k0 : (k : Int) ≤ 17592186043904 := by omega
  have n1 : (1 : Int) ≤ (N : Int) := hmay.1
  have n2 : (N : Int) ≤ 1000 := hmay.2
  have n3 : 1 + (b0 : Int) = (N : Int) := hN.symm
  have n4 : (b0 : Int) < 1000 := by omega
  have m1000 : May ((1000 : Nat) : Int) := by unfold May; omega
  have HM2 := hideIt m1000
  clear hl hk h1 h2 hmay hN hbl hnil hbx a0 m1000
  go_enter Try.func5, Try.ntmps5
  go_wp2_with fail
  rw [← hw0]
  clear hw0
  refine HW.out.mono ?_
  rintro e w1 ⟨rfl, a1⟩
  have A1 := hideIt a1
  have hc := two_at ((a1.block w.heap.size (blk_lt HBX.out) (fun t => t)).trans HBX.out)
  obtain ⟨hlt, c0, c1, -, -⟩ := hc
  have HC0 := hideIt (fun W (h : After w1 W) => (h.cell hlt 0).trans c0)
  have HC1 := hideIt (fun W (h : After w1 W) => (h.cell hlt 1).trans c1)
  clear a1 HW hlt c1
  -- the first number of x
  have d0 := Duo.nil (w1.alloc (.cells #[.int .i64 x0] 3)) w1.heap.size
  have hrow : IRow (w1.alloc (.cells #[.int .i64 x0] 3)) (some ⟨w1.heap.size, 0, none⟩) 1 [x0] := lit_irow (heap_alloc_new w1 _) rfl rfl
  have HD0 := hideIt d0
  have HR0 := hideIt hrow
  have HB0 := hideIt (show w1.heap.size ≤ (w1.alloc (.cells #[.int .i64 x0] 3)).heap.size by simp)
  have HZ0 := hideIt (show ([] : List Int).length + 1 ≤ 17592186044416 by simp)
  clear d0 hrow
  go_wp2_with fail
  refine (HO.out _).mono ?_
  rintro e w' ⟨rfl, hww⟩
  subst w'
  go_wp2_with (at_builtin; refine app_duo rfl (.tmp 18) (.tmp 21) rfl w1.heap.size _ (.slice none 0 0) [] [] rfl HD0.out ⟨_, 0, none⟩ x0 rfl HR0.out HZ0.out HB0.out ?_)
  intro v3 w3 d3 b3
  have a3 : After w1 w3 := After.rfl.then ((After.rfl.alloc _).but.then b3 (fun i _ t => t)) (fun i hi t => by have : w1.heap.size ≤ i := t; omega)
  have d3 : Duo w3 w1.heap.size v3 (.slice none 0 0) [x0] [] := d3
  have c1 := HC1.out _ a3
  have HD3 := hideIt (d3.after (After.rfl.alloc (.cells #[.int .i64 x1] 3)))
  have HR3 := hideIt (show IRow (w3.alloc (.cells #[.int .i64 x1] 3)) (some ⟨w3.heap.size, 0, none⟩) 1 [x1] from lit_irow (heap_alloc_new w3 _) rfl rfl)
  have HB3 := hideIt (show w1.heap.size ≤ (w3.alloc (.cells #[.int .i64 x1] 3)).heap.size by have := a3.size; simp; omega)
  have HA3 := hideIt a3
  clear HO n3 n4 c0 HD0 HR0 HB0 HC0 HC1 d3 b3 a3
  go_wp2_with (at_builtin; refine app_duo2 rfl (.tmp 23) (.tmp 26) rfl w1.heap.size v3 _ [x0] [] rfl HD3.out ⟨_, 0, none⟩ x1 rfl HR3.out HZ0.out HB3.out ?_)
  intro v4 w4 d4 b4
  have a4 : After w1 w4 := HA3.out.then ((After.rfl.alloc _).but.then b4 (fun i _ t => t)) (fun i hi t => by have : w1.heap.size ≤ i := t; omega)
  have d4 : Duo w4 w1.heap.size v3 v4 [x0] [x1] := d4
  have HD4 := hideIt d4
  have HL4 := hideIt (HL.out.after ((HA0.out.trans A1.out).trans a4))
  have HA4 := hideIt a4
  have HB4 := hideIt a4.size
  have HZ4 := hideIt (show ∀ z : Int, [z].length + k ≤ 17592186044416 from fun z => by simp; omega)
  clear HD3 HR3 HB3 HZ0 HA3 d4 b4 a4 c1
  go_wp2_with (at_builtin; refine app_duoL rfl (.tmp 28) (.tmp 29) rfl w1.heap.size _ v4 [x0] [x1] rfl HD4.out a k c zs rfl HL4.out HNI.out (HZ4.out _) HB4.out ?_)
  intro v5 w5 d5 b5
  have a5 : After w1 w5 := HA4.out.then b5 (fun i hi t => by have : w1.heap.size ≤ i := t; omega)
  have d5 : Duo w5 w1.heap.size v5 v4 (x0 :: zs) [x1] := d5
  have HD5 := hideIt d5
  have HL5 := hideIt (HL.out.after ((HA0.out.trans A1.out).trans a5))
  have HA5 := hideIt a5
  have HB5 := hideIt a5.size
  clear HD4 HL4 HA4 HB4 d5 b5 a5
  go_wp2_with (at_builtin; refine app_duoL2 rfl (.tmp 31) (.tmp 32) rfl w1.heap.size v5 _ (x0 :: zs) [x1] rfl HD5.out a k c zs rfl HL5.out HNI.out (HZ4.out _) HB5.out ?_)
  intro v6 w6 d6 b6
  have a6 : After w1 w6 := HA5.out.then b6 (fun i hi t => by have : w1.heap.size ≤ i := t; omega)
  have d6 : Duo w6 w1.heap.size v5 v6 (x0 :: zs) (x1 :: zs) := d6
  obtain ⟨pa, pc, rfl, pi, -, -, -⟩ := own_irow d6.fst
  obtain ⟨qa, qc, rfl, qi, -, -, -⟩ := own_irow d6.snd
  have hzl : zs.length = k := HL.out.1
  have lx : ∀ z : Int, (z :: zs).length = k + 1 := fun z => by rw [List.length_cons, hzl]
  rw [lx] at pi qi ⊢
  rw [lx]
  obtain ⟨K, hK⟩ : ∃ K : Nat, K = k + 1 := ⟨_, rfl⟩
  rw [← hK] at pi qi lx ⊢
  have K0 : (K : Int) ≤ 17592186044416 := by omega
  have HX := hideIt (show ∀ z q, q + 1 < K → q < (z :: zs).length ∧ q < zs.length from fun z q hq => by rw [lx]; omega)
  have HXL := hideIt lx
  obtain ⟨X, hX⟩ : ∃ X, X = x0 :: zs := ⟨_, rfl⟩
  obtain ⟨Y, hY⟩ : ∃ Y, Y = x1 :: zs := ⟨_, rfl⟩
  rw [← hX] at pi
  rw [← hY] at qi
  have R1 := hideIt (run_any w6 N HM.out pa K pc X pi (by omega))
  have R2 := hideIt (fun W (h : After w6 W) => run_any W N HM.out qa K qc Y (qi.after h) (by omega))
  have R3 := hideIt (fun W (h : After w6 W) => run_any W 1000 HM2.out pa K pc X (pi.after h) (by omega))
  have PI := hideIt pi
  have HA6 := hideIt ((HA0.out.trans A1.out).trans a6)
  have HXY := hideIt (And.intro hX hY)
  clear HD5 HL5 HA5 HB5 HZ4 d6 b6 a6 pi qi lx hX hY hzl hK A1 HA0
  go_wp2_with fail
  refine R1.out.mono ?_
  rintro e w7 ⟨u7, rfl, o7, a7⟩
  obtain ⟨ra, rc, rfl, i7, -, -, -⟩ := own_irow o7
  rw [slws_length] at i7 ⊢
  have I7 := hideIt (And.intro i7 a7)
  clear o7 i7 a7 R1
  go_wp2_with fail
  refine (R2.out _ I7.out.2).mono ?_
  rintro e w8 ⟨u8, rfl, o8, a8⟩
  obtain ⟨sa, sc, rfl, i8, -, -, -⟩ := own_irow o8
  rw [slws_length] at i8 ⊢
  have I8 := hideIt (And.intro i8 a8)
  clear o8 i8 a8 R2
  go_wp2_with fail
  refine (R3.out _ (I7.out.2.trans I8.out.2)).mono ?_
  rintro e w9 ⟨u9, rfl, o9, a9⟩
  obtain ⟨ta, tc, rfl, i9, -, -, -⟩ := own_irow o9
  rw [slws_length] at i9 ⊢
  have IA := hideIt (I7.out.1.after (I8.out.2.trans a9))
  have IB := hideIt (I8.out.1.after a9)
  have IC := hideIt i9
  have IX := hideIt (PI.out.after ((I7.out.2.trans I8.out.2).trans a9))
  have HA := hideIt (HA6.out.trans ((I7.out.2.trans I8.out.2).trans a9))
  have hne : ((K : Int) != (K : Int)) = false := by simp
  clear o9 i9 a9 R3 I7 I8 PI HA6
  go_wp2_with fail
  go_loopw [12] (fun i wr => ∃ j : Nat, j ≤ K ∧ i = .int .i64 j ∧ Dr w9 wr) (fun i _ => K - (intOf i).toNat)
  case atStart => exact ⟨0, Nat.zero_le _, rfl, Dr.rfl⟩
  case round =>
    obtain ⟨j, hj, rfl, dr⟩ := hrel
    by_cases hjk : j < K
    · have i1 : (j : Int) < (K : Int) := by omega
      have hXl : X.length = K := by rw [HXY.out.1]; exact HXL.out x0
      have hYl : Y.length = K := by rw [HXY.out.2]; exact HXL.out x1
      obtain ⟨bx, fx, rfl, -, ex⟩ := (IX.out.after dr.after).cellAt hjk
      obtain ⟨bc, fc, rfl, -, ec⟩ := (IC.out.after dr.after).cellAt hjk
      rw [slws_getD hjk, slw_whole (by omega)] at ec
      have HC := hideIt (fun W => (clamp_any (X.getD j 0) W).mono (fun e w' (h : _ ∧ w' = W) => (⟨h.1, 0, h.2⟩ : _ ∧ ∃ m, w' = W.drewN m)))
      have HDR := hideIt dr
      by_cases hj0 : j = 0
      · subst hj0
        rw [Nat.add_zero] at ex ec
        generalize X.getD 0 0 = z0 at *
        generalize clampZ z0 = c0 at *
        have hcc : (c0 != c0) = false := by simp
        clear dr hXl hYl
        go_wp2_with fail
        go_quiet (first | (go_at_call 15; refine Calls.quiet_of (HC.out _)))
        go_wp2
        go_roundw
        case rel =>
          obtain ⟨m, e⟩ := HDR.out
          exact ⟨1, by omega, by go_num, m + nq, by rw [e, World.drewN_drewN]⟩
        case measure => simp [intOf]; omega
      · obtain ⟨q, hq⟩ : ∃ q : Nat, q + 1 = j := ⟨j - 1, by omega⟩
        have hqK : q < K := by omega
        obtain ⟨ba, fa, rfl, -, ea⟩ := (IA.out.after dr.after).cellAt hjk
        obtain ⟨bb, fb, rfl, -, eb⟩ := (IB.out.after dr.after).cellAt hjk
        obtain ⟨ba', fa', xa, -, ea'⟩ := (IA.out.after dr.after).cellAt hqK
        cases xa
        obtain ⟨bb', fb', xb, -, eb'⟩ := (IB.out.after dr.after).cellAt hqK
        cases xb
        rw [slws_getD hjk] at ea eb
        rw [slws_getD hqK] at ea' eb'
        have ht := slw_together (N := N) (by omega) x0 x1 (zs := zs) (q := q) (HX.out x0 q (by omega)).2
        rw [← HXY.out.1, ← HXY.out.2, hq] at ht
        have f1 := slw_fit (p := N) (by omega) (zs := X) (j := j) (by omega)
        have f2 := slw_fit (p := N) (by omega) (zs := Y) (j := j) (by omega)
        have f3 := slw_fit (p := N) (by omega) (zs := X) (j := q) (by omega)
        have f4 := slw_fit (p := N) (by omega) (zs := Y) (j := q) (by omega)
        generalize X.getD j 0 = z0 at *
        generalize clampZ z0 = c0 at *
        generalize slw N X j = p1 at *
        generalize slw N Y j = p2 at *
        generalize slw N X q = p3 at *
        generalize slw N Y q = p4 at *
        have hcc : (c0 != c0) = false := by simp
        obtain ⟨D1, hD1⟩ : ∃ D1, p1 - p2 = D1 := ⟨_, rfl⟩
        obtain ⟨D2, hD2⟩ : ∃ D2, p3 - p4 = D2 := ⟨_, rfl⟩
        have w1 : IntKind.i64.wrap D1 = D1 := IntWalk.i64_in _ (by omega)
        have w2 : IntKind.i64.wrap D2 = D2 := IntWalk.i64_in _ (by omega)
        have HAb := hideIt (fun W => (abs_any D1 W (by omega) (by omega)).mono (fun e w' (h : _ ∧ w' = W) => (⟨h.1, 0, h.2⟩ : _ ∧ ∃ m, w' = W.drewN m)))
        have HAc := hideIt (fun W => (abs_any D2 W (by omega) (by omega)).mono (fun e w' (h : _ ∧ w' = W) => (⟨h.1, 0, h.2⟩ : _ ∧ ∃ m, w' = W.drewN m)))
        rw [hD1, hD2] at ht
        have r1 : 0 ≤ ab D2 ∧ ab D2 ≤ 4294967294 := by unfold ab; omega
        generalize ab D1 = R1 at *
        generalize ab D2 = R2 at *
        have g1 : ¬ R2 + 1 < R1 := by omega
        have w3 : IntKind.i64.wrap (R2 + 1) = R2 + 1 := IntWalk.i64_in _ (by omega)
        have iq : (j : Int) - 1 = (q : Int) := by omega
        have w4 : IntKind.i64.wrap (q : Int) = (q : Int) := IntWalk.i64_in _ (by omega)
        have i0 : 0 < j := by omega
        have j1 : (q : Int) < (K : Int) := by omega
        clear dr hXl hYl hq hj0 ht f1 f2 f3 f4
        go_wp2_with fail
        go_quiet (first | (go_at_call 15; refine Calls.quiet_of (HC.out _)) | (go_at_call 16; first | refine Calls.quiet_of (HAb.out _) | refine Calls.quiet_of (HAc.out _)))
        go_wp2
        go_roundw
        case rel =>
          obtain ⟨m, e⟩ := HDR.out
          exact ⟨j + 1, by omega, by go_num, m + nq, by rw [e, World.drewN_drewN]⟩
        case measure => simp [intOf]; omega
    · have i1 : ¬ (j : Int) < (K : Int) := by omega
      have HD := hideIt (HA.out.trans dr.after)
      clear dr
      go_wp2
      go_ret
      exact ⟨rfl, HD.out⟩
end Go.Proofs.Ytlfaphceeclphaa
