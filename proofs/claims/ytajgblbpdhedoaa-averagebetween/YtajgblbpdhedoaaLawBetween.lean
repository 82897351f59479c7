/-
  AverageBetween.
-/
import Derived.Test.YtajgblbpdhedoaaAvT
import Derived.Lib.MinMax
namespace Go.Proofs.Ytajgblbpdhedoaa
open Go.RowKit
set_option maxRecDepth 8000
/-- The numbers from one place on, up to another. -/
def prt (zs : List Int) (F q : Nat) : List Int := (clamps (zs.take q)).drop F
theorem prt_succ {zs : List Int} {F q : Nat} (h : F ≤ q) (hq : q < zs.length) : prt zs F (q + 1) = prt zs F q ++ [clampZ (zs.getD q 0)] := by
  unfold prt
  rw [clamps_succ zs hq, List.drop_append_of_le_length]
  rw [clamps_length, List.length_take]; omega
theorem prt_nil (zs : List Int) (F : Nat) : prt zs F F = [] := by
  unfold prt
  rw [List.drop_eq_nil_of_le]
  rw [clamps_length, List.length_take]; omega
theorem prt_length {zs : List Int} {F q : Nat} (hq : q ≤ zs.length) : (prt zs F q).length = q - F := by
  unfold prt
  rw [List.length_drop, clamps_length, List.length_take]; omega
theorem prt_fit (zs : List Int) (F q : Nat) : Fit (prt zs F q) := (Fit.clamps _).drop F
/-- The least and the greatest of some numbers and one more. -/
def lows (c : Int) (l : List Int) : Int := l.foldl min c
def highs (c : Int) (l : List Int) : Int := l.foldl max c
theorem lows_snoc (c v : Int) (l : List Int) : lows c (l ++ [v]) = min (lows c l) v := by unfold lows; rw [List.foldl_append]; rfl
theorem highs_snoc (c v : Int) (l : List Int) : highs c (l ++ [v]) = max (highs c l) v := by unfold highs; rw [List.foldl_append]; rfl
theorem lows_le (c : Int) (l : List Int) : lows c l ≤ c ∧ ∀ x ∈ l, lows c l ≤ x := by
  induction l generalizing c with
  | nil => exact ⟨Int.le_refl _, fun x h => by cases h⟩
  | cons y r ih =>
    have h := ih (min c y)
    have e : lows c (y :: r) = lows (min c y) r := rfl
    rw [e]
    refine ⟨by omega, fun x hx => ?_⟩
    rcases List.mem_cons.1 hx with rfl | hx
    · omega
    · exact h.2 x hx
theorem highs_le (c : Int) (l : List Int) : c ≤ highs c l ∧ ∀ x ∈ l, x ≤ highs c l := by
  induction l generalizing c with
  | nil => exact ⟨Int.le_refl _, fun x h => by cases h⟩
  | cons y r ih =>
    have h := ih (max c y)
    have e : highs c (y :: r) = highs (max c y) r := rfl
    rw [e]
    refine ⟨by omega, fun x hx => ?_⟩
    rcases List.mem_cons.1 hx with rfl | hx
    · omega
    · exact h.2 x hx
theorem mean_between {xs : List Int} (h : 0 < xs.length) (c : Int) : lows c xs ≤ meanZ xs ∧ meanZ xs ≤ highs c xs :=
  near_between h (sumZ_lo (lows_le c xs).2) (sumZ_hi (highs_le c xs).2)
theorem mean_fit {xs : List Int} (h : 0 < xs.length) (hf : Fit xs) : -2147483647 ≤ meanZ xs ∧ meanZ xs ≤ 2147483647 :=
  near_between h (sumZ_lo (fun x hx => (hf x hx).1)) (sumZ_hi (fun x hx => (hf x hx).2))
theorem mul_small {K : Nat} {x : Int} (hk : K ≤ 15) (h1 : -2147483647 ≤ x) (h2 : x ≤ 2147483647) : -32212254705 ≤ (K : Int) * x ∧ (K : Int) * x ≤ 32212254705 := by
  have a1 := Int.mul_le_mul_of_nonneg_left h1 (show (0 : Int) ≤ (K : Int) by omega)
  have a2 := Int.mul_le_mul_of_nonneg_left h2 (show (0 : Int) ≤ (K : Int) by omega)
  omega
/-- An n that may be, out of any number. -/
def anyN (n : Int) : Nat := 1 + broughtTo n 15
theorem anyN_may (n : Int) : May (anyN n : Nat) := by
  have := broughtTo_lt n (m := 15) (by omega)
  unfold May anyN
  omega
set_option maxHeartbeats 2000000 in
theorem law_between (w : World) (n : Int) (h1 : -9223372036854775808 ≤ n) (h2 : n ≤ 9223372036854775807) (a : Option Addr) (k c : Nat) (zs : List Int) (hl : IRow w a k zs) (hk : k ≤ 17592186044416) :
    Calls Try.prog 4 #[.int .i64 n, .slice a k c] w fun e w' => e = .returned (.bool true) ∧ After w w' := by
  have HW := hideIt (works_any w)
  have HO := hideIt (fun W => bring_any n 15 W h1 h2 (by omega) (by omega))
  have hmay := anyN_may n
  have hN : ((anyN n : Nat) : Int) = 1 + ((broughtTo n 15 : Nat) : Int) := by unfold anyN; omega
  have hbl := broughtTo_lt n (m := 15) (by omega)
  generalize broughtTo n 15 = b at *
  generalize anyN n = N at *
  have HL := hideIt hl
  have HK := hideIt hk
  have HM := hideIt hmay
  have k0 : (k : Int) ≤ 17592186044416 := by omega
  have n1 : (1 : Int) ≤ (N : Int) := hmay.1
  have n2 : (N : Int) ≤ 15 := hmay.2
  have n3 : 1 + (b : Int) = (N : Int) := hN.symm
  have n4 : (b : Int) < 15 := by omega
  clear hl hk h1 h2 hmay hN hbl
  go_enter Try.func4, Try.ntmps4
  go_wp2_with fail
  refine HW.out.mono ?_
  rintro e w1 ⟨rfl, a1⟩
  have A1 := hideIt a1
  clear a1 HW
  go_wp2_with (go_at_call 13; refine (HO.out _).mono ?_; rintro e w' ⟨rfl, rfl⟩)
  refine (run_any _ N HM.out a k c zs (HL.out.after A1.out) HK.out).mono ?_
  rintro e W ⟨v, rfl, own, a2⟩
  have AW := hideIt (A1.out.trans a2)
  obtain ⟨a', c', rfl, ir, -, -, -⟩ := own_irow own
  rw [avgs_length] at ir ⊢
  have IR := hideIt ir
  have ZR := hideIt (HL.out.after AW.out)
  have hne : ((k : Int) != (k : Int)) = false := by simp
  clear own a2 ir HO A1 n3 n4
  go_wp2_with fail
  go_loopw [6] (fun i wr => ∃ j : Nat, j ≤ k ∧ i = .int .i64 j ∧ Dr W wr) (fun i _ => k - (intOf i).toNat)
  case atStart => exact ⟨0, Nat.zero_le _, rfl, Dr.rfl⟩
  case round =>
    obtain ⟨j, hj, rfl, dr⟩ := hrel
    by_cases hjk : j < k
    · have i1 : (j : Int) < (k : Int) := by omega
      obtain ⟨F, hF⟩ : ∃ F : Nat, F = j + 1 - N := ⟨_, rfl⟩
      have hmx : max ((j : Int) + 1 - (N : Int)) 0 = (F : Int) := by omega
      have hw1 : IntKind.i64.wrap ((j : Int) + 1 - (N : Int)) = (j : Int) + 1 - (N : Int) := IntWalk.i64_in _ (by omega)
      obtain ⟨x, hx⟩ : ∃ x, x = avg N zs j := ⟨_, rfl⟩
      have hzl : zs.length = k := ZR.out.1
      have hxm : x = meanZ (prt zs F (j + 1)) := by
        rw [hx]
        unfold avg prt lastN
        rw [clamps_length, List.length_take, hF]
        congr 2
        omega
      obtain ⟨b', off', rfl, hb', e2⟩ := (IR.out.after dr.after).cellAt hjk
      rw [show (avgs N zs k).getD j 0 = x by rw [avgs_getD hjk, hx]] at e2
      obtain ⟨bz, offz, rfl, hbz, e1⟩ := (ZR.out.after dr.after).cellAt hjk
      have HE := hideIt (show ∀ W', After W W' → W'.cell? ⟨b', off' + j, none⟩ = some (.int .i64 x) from fun W' h => by
        obtain ⟨b1, o1, ea, _, e3⟩ := (IR.out.after h).cellAt hjk
        cases ea
        rw [e3, avgs_getD hjk, hx])
      have HG := hideIt (show ∀ W', After W W' → ∀ q, q < k → W'.cell? ⟨bz, offz + q, none⟩ = some (.int .i64 (zs.getD q 0)) from fun W' h q hq => by
        obtain ⟨b1, o1, ea, _, e3⟩ := (ZR.out.after h).cellAt hq
        cases ea
        exact e3)
      have HX := hideIt (And.intro hxm hF)
      have HZ := hideIt hzl
      have HDR := hideIt dr
      have HC := hideIt (fun W => (clamp_any (zs.getD j 0) W).mono (fun e w' (h : _ ∧ w' = W) => (⟨h.1, 0, h.2⟩ : _ ∧ ∃ m, w' = W.drewN m)))
      have f1 : (F : Int) ≤ (j : Int) := by omega
      have hf1 : F ≤ j := by omega
      clear hx hxm hF hzl dr
      generalize zs.getD j 0 = z0 at *
      generalize clampZ z0 = c0 at *
      go_wp2_with fail
      go_quiet (first | (go_at_call 15; refine Calls.quiet_of (HC.out _)))
      obtain ⟨W2, hW2⟩ : ∃ W2, W2 = wr.drewN nq := ⟨_, rfl⟩
      rw [← hW2]
      have d2 : Dr W W2 := by
        obtain ⟨m, e⟩ := HDR.out
        exact ⟨m + nq, by rw [hW2, e, World.drewN_drewN]⟩
      have D2 := hideIt d2
      clear e1 e2 hW2 d2 HDR HC hmx hw1
      go_wp2_with fail
      go_loopw [8, 9, 10, 11] (fun l m s q wr' => ∃ q' : Nat, F ≤ q' ∧ q' ≤ j + 1 ∧ q = .int .i64 q' ∧ l = .int .i64 (lows c0 (prt zs F q')) ∧ m = .int .i64 (highs c0 (prt zs F q')) ∧ s = .int .i64 (sumZ (prt zs F q')) ∧ wr' = W2) (fun _ _ _ q _ => j + 1 - (intOf q).toNat)
      case atStart => exact ⟨F, Nat.le_refl _, by omega, rfl, by rw [prt_nil]; rfl, by rw [prt_nil]; rfl, by rw [prt_nil]; rfl, rfl⟩
      case round =>
        obtain ⟨q, hq1, hq2, rfl, rfl, rfl, rfl, rfl⟩ := hrel
        have l3 : q - F ≤ 15 := by have := HX.out.2; omega
        have ls := (prt_fit zs F q).sum (by rw [prt_length (by have := HZ.out; omega)]; exact l3)
        by_cases hqj : q ≤ j
        · have i2 : (q : Int) ≤ (j : Int) := by omega
          have i3 : (q : Int) < (k : Int) := by omega
          have e1 := HG.out _ D2.out.after q (by omega)
          have hs := prt_succ (zs := zs) hq1 (by have := HZ.out; omega)
          have hcl := clampZ_le (zs.getD q 0)
          have s1 := lows_snoc c0 (clampZ (zs.getD q 0)) (prt zs F q)
          have s2 := highs_snoc c0 (clampZ (zs.getD q 0)) (prt zs F q)
          have s3 := sumZ_snoc (prt zs F q) (clampZ (zs.getD q 0))
          rw [← hs] at s1 s2 s3
          have HC := hideIt (fun W => clamp_any (zs.getD q 0) W)
          generalize zs.getD q 0 = z at *
          generalize clampZ z = y at *
          generalize lows c0 (prt zs F q) = Lm at *
          generalize highs c0 (prt zs F q) = Ll at *
          generalize sumZ (prt zs F q) = S at *
          have HS := hideIt (And.intro s1 (And.intro s2 s3))
          clear s1 s2 s3 hs l3
          go_wp2_with (go_at_call 15; refine (HC.out _).mono ?_; rintro e w' ⟨rfl, rfl⟩)
          go_roundw
          case rel =>
            obtain ⟨s1, s2, s3⟩ := HS.out
            exact ⟨q + 1, by omega, by omega, by go_num, by rw [s1], by rw [s2], by rw [s3], by first | rfl | trivial⟩
          case measure => simp [intOf]; omega
        · obtain rfl : q = j + 1 := by omega
          have i2 : ¬ (((j + 1 : Nat) : Int)) ≤ (j : Int) := by omega
          have hpl : (prt zs F (j + 1)).length = j + 1 - F := prt_length (by have := HZ.out; omega)
          have hb := mean_between (xs := prt zs F (j + 1)) (by omega) c0
          have hm := mean_fit (xs := prt zs F (j + 1)) (by omega) (prt_fit _ _ _)
          have ht := near_two (sumZ (prt zs F (j + 1))) (k := (prt zs F (j + 1)).length) (by omega)
          have hx0 : x = near (sumZ (prt zs F (j + 1))) (prt zs F (j + 1)).length := HX.out.1
          rw [← hx0] at ht
          rw [← HX.out.1] at hb hm
          rw [hpl] at ht
          have e2 := HE.out _ D2.out.after
          clear hx0
          obtain ⟨K, hK⟩ : ∃ K : Nat, K = j + 1 - F := ⟨_, rfl⟩
          have hmul := mul_small (K := K) (x := x) (by omega) hm.1 hm.2
          rw [← hK] at ht
          have hK2 : (j : Int) + 1 - (F : Int) = (K : Int) := by omega
          generalize lows c0 (prt zs F (j + 1)) = Lm at *
          generalize highs c0 (prt zs F (j + 1)) = Ll at *
          generalize sumZ (prt zs F (j + 1)) = S at *
          obtain ⟨P, hP⟩ : ∃ P, P = (K : Int) * x := ⟨_, rfl⟩
          rw [← hP] at ht hmul
          have hP2 : (K : Int) * x = P := hP.symm
          have l6 : ¬ x < Lm := by omega
          have l7 : ¬ Ll < x := by omega
          have HAb := hideIt (fun W => abs_any (P - S) W (by omega) (by omega))
          have a1 : 2 * ab (P - S) ≤ (K : Int) := by unfold ab; omega
          have a2 : 0 ≤ ab (P - S) := by unfold ab; omega
          generalize ab (P - S) = R at *
          have a3 : ¬ (K : Int) < 2 * R := by omega
          have a4 : R ≤ 15 := by omega
          have a5 : (K : Int) ≤ 15 := by omega
          clear hb hm ht hpl hK hP l3
          go_wp2_with (go_at_call 16; refine (HAb.out _).mono ?_; rintro e w' ⟨rfl, rfl⟩)
          go_roundw
          case rel => exact ⟨j + 1, by omega, by go_num, D2.out⟩
          case measure => simp [intOf]; omega
    · have i1 : ¬ (j : Int) < (k : Int) := by omega
      have HA := hideIt (AW.out.trans dr.after)
      clear dr
      go_wp2
      go_ret
      exact ⟨rfl, HA.out⟩
end Go.Proofs.Ytajgblbpdhedoaa
