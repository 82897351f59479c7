/-
  IirBetween.
-/
import Derived.Test.YtlfaphceeclphaaIrT
import Derived.Lib.MinMax
namespace Go.Proofs.Ytlfaphceeclphaa
open Go.RowKit
set_option maxRecDepth 8000
/-- A part that may be, out of any number. -/
def anyN (n : Int) : Nat := 1 + broughtTo n 1000
theorem anyN_may (n : Int) : May (anyN n : Nat) := by
  have := broughtTo_lt n (m := 1000) (by omega)
  unfold May anyN
  omega
theorem ab_mul {N : Nat} {d : Int} : (N : Int) * ab d < 500 ↔ -500 < (N : Int) * d ∧ (N : Int) * d < 500 := by
  unfold ab
  by_cases h : 0 ≤ d
  · rw [show max d (-d) = d by omega]
    have := Int.mul_nonneg (show (0 : Int) ≤ (N : Int) by omega) h
    omega
  · rw [show max d (-d) = -d by omega]
    have := Int.mul_nonneg (show (0 : Int) ≤ (N : Int) by omega) (show 0 ≤ -d by omega)
    rw [Int.mul_neg] at *
    omega
set_option maxHeartbeats 2000000 in
theorem law_betweenI (w : World) (n : Int) (h1 : -9223372036854775808 ≤ n) (h2 : n ≤ 9223372036854775807) (a : Option Addr) (k c : Nat) (zs : List Int) (hl : IRow w a k zs) (hk : k ≤ 17592186044416) :
    Calls Try.prog 4 #[.int .i64 n, .slice a k c] w fun e w' => e = .returned (.bool true) ∧ After w w' := by
  have HW := hideIt (works_any w)
  have HO := hideIt (fun W => bring_any n 1000 W h1 h2 (by omega) (by omega))
  have hmay := anyN_may n
  have hN : ((anyN n : Nat) : Int) = 1 + ((broughtTo n 1000 : Nat) : Int) := by unfold anyN; omega
  have hbl := broughtTo_lt n (m := 1000) (by omega)
  generalize broughtTo n 1000 = b at *
  generalize anyN n = N at *
  have HL := hideIt hl
  have HK := hideIt hk
  have HM := hideIt hmay
  have k0 : (k : Int) ≤ 17592186044416 := by omega
  have n1 : (1 : Int) ≤ (N : Int) := hmay.1
  have n2 : (N : Int) ≤ 1000 := hmay.2
  have n3 : 1 + (b : Int) = (N : Int) := hN.symm
  have n4 : (b : Int) < 1000 := by omega
  clear hl hk h1 h2 hmay hN hbl
  go_enter Try.func4, Try.ntmps4
  go_wp2_with fail
  refine HW.out.mono ?_
  rintro e w1 ⟨rfl, a1⟩
  have A1 := hideIt a1
  clear a1 HW
  go_wp2_with (go_at_call 13; refine (HO.out _).mono ?_; rintro e w' ⟨rfl, rfl⟩)
  refine (run_any _ N HM.out a k c zs (HL.out.after A1.out) HK.out).mono ?_
  rintro e W ⟨v, rfl, own, a2⟩
  have AW := hideIt (A1.out.trans a2)
  obtain ⟨a', c', rfl, ir, -, -, -⟩ := own_irow own
  rw [slws_length] at ir ⊢
  have IR := hideIt ir
  have ZR := hideIt (HL.out.after AW.out)
  have hne : ((k : Int) != (k : Int)) = false := by simp
  clear own a2 ir HO A1 n3 n4
  go_wp2_with fail
  go_loopw [6] (fun i wr => ∃ j : Nat, j ≤ k ∧ i = .int .i64 j ∧ Dr W wr) (fun i _ => k - (intOf i).toNat)
  case atStart => exact ⟨0, Nat.zero_le _, rfl, Dr.rfl⟩
  case round =>
    obtain ⟨j, hj, rfl, dr⟩ := hrel
    by_cases hjk : j < k
    · have i1 : (j : Int) < (k : Int) := by omega
      have hzl : zs.length = k := ZR.out.1
      obtain ⟨b', off', rfl, hb', e2⟩ := (IR.out.after dr.after).cellAt hjk
      rw [slws_getD hjk] at e2
      obtain ⟨bz, offz, rfl, hbz, e1⟩ := (ZR.out.after dr.after).cellAt hjk
      have HC := hideIt (fun W => clamp_any (zs.getD j 0) W)
      have hcf := clampZ_le (zs.getD j 0)
      by_cases hj0 : j = 0
      · subst hj0
        have hx := slw_zero N (zs := zs) (by omega)
        rw [hx] at e2
        rw [Nat.add_zero] at e1 e2
        have HDR := hideIt dr
        clear dr hx hzl
        generalize zs.getD 0 0 = z0 at *
        generalize clampZ z0 = c0 at *
        have hcc : (c0 != c0) = false := by simp
        go_wp2_with (go_at_call 15; refine (HC.out _).mono ?_; rintro e w' ⟨rfl, rfl⟩)
        go_roundw
        case rel => exact ⟨1, by omega, by go_num, HDR.out⟩
        case measure => simp [intOf]; omega
      · obtain ⟨q, hq⟩ : ∃ q : Nat, q + 1 = j := ⟨j - 1, by omega⟩
        have hx := slw_succ N (zs := zs) (j := q) (by omega)
        rw [hq] at hx
        obtain ⟨b2, o2, ea, _, e3⟩ := (IR.out.after dr.after).cellAt (show q < k by omega)
        cases ea
        rw [slws_getD (by omega)] at e3
        have hy := slw_fit (p := N) (by omega) (zs := zs) (j := q) (by omega)
        have hm := slw_fit (p := N) (by omega) (zs := zs) (j := j) (by omega)
        have HDR := hideIt dr
        generalize zs.getD j 0 = z0 at *
        generalize clampZ z0 = c0 at *
        have hin := nx_in (p := N) (by omega) (slw N zs q) c0
        have hst := nx_stay N (slw N zs q) c0
        rw [← ab_mul] at hst
        rw [← hx] at hin hst
        generalize slw N zs j = M at *
        generalize slw N zs q = y at *
        have HAb := hideIt (fun W => (abs_any (c0 - y) W (by omega) (by omega)).mono (fun e w' (h : _ ∧ w' = W) => (⟨h.1, 0, h.2⟩ : _ ∧ ∃ m, w' = W.drewN m)))
        have hr : 0 ≤ ab (c0 - y) ∧ ab (c0 - y) ≤ 4294967294 := by unfold ab; omega
        have hmul := mul_in (p := N) (d := ab (c0 - y)) (m := 4294967294) (by omega) (by omega) hr.2
        generalize hR : ab (c0 - y) = R at *
        obtain ⟨P, hP⟩ : ∃ P, P = (N : Int) * R := ⟨_, rfl⟩
        rw [← hP] at hst hmul
        have hP2 : (N : Int) * R = P := hP.symm
        have w1 : IntKind.i64.wrap (c0 - y) = c0 - y := IntWalk.i64_in _ (by omega)
        have w2 : IntKind.i64.wrap P = P := IntWalk.i64_in _ (by omega)
        have iq : (j : Int) - 1 = (q : Int) := by omega
        have iq0 : ¬ (j : Int) = 0 := by omega
        have iqb : ((j : Int) == 0) = false := by simpa using iq0
        have j1 : (q : Int) < (k : Int) := by omega
        clear dr hx hzl hP hR hq hj0
        obtain ⟨L, hL⟩ : ∃ L, min y c0 = L := ⟨_, rfl⟩
        obtain ⟨G, hG⟩ : ∃ G, max y c0 = G := ⟨_, rfl⟩
        have g5 : ¬ M < L := by omega
        have g6 : ¬ G < M := by omega
        rcases (by omega : (M = y ∧ P < 500) ∨ (¬ M = y ∧ ¬ P < 500)) with ⟨g1, g2⟩ | ⟨g1, g2⟩
        · subst g1
          clear hin hst
          go_wp2_with (go_at_call 15; refine (HC.out _).mono ?_; rintro e w' ⟨rfl, rfl⟩)
          go_quiet (first | (go_at_call 16; refine Calls.quiet_of (HAb.out _)))
          go_wp2
          go_roundw
          case rel =>
            obtain ⟨m, e⟩ := HDR.out
            exact ⟨j + 1, by omega, by go_num, m + nq, by rw [e, World.drewN_drewN]⟩
          case measure => simp [intOf]; omega
        · have g7 : (M == y) = false := by simpa using g1
          clear hin hst
          go_wp2_with (go_at_call 15; refine (HC.out _).mono ?_; rintro e w' ⟨rfl, rfl⟩)
          go_quiet (first | (go_at_call 16; refine Calls.quiet_of (HAb.out _)))
          go_wp2
          go_roundw
          case rel =>
            obtain ⟨m, e⟩ := HDR.out
            exact ⟨j + 1, by omega, by go_num, m + nq, by rw [e, World.drewN_drewN]⟩
          case measure => simp [intOf]; omega
    · have i1 : ¬ (j : Int) < (k : Int) := by omega
      have HA := hideIt (AW.out.trans dr.after)
      clear dr
      go_wp2
      go_ret
      exact ⟨rfl, HA.out⟩
end Go.Proofs.Ytlfaphceeclphaa
