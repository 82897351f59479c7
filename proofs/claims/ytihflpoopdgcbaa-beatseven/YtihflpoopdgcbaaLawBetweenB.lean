/-
  BeatsBetween.
-/
import Derived.Test.YtihflpoopdgcbaaBtQ
namespace Go.Proofs.Ytihflpoopdgcbaa
open Go.RowKit
set_option maxRecDepth 8000
/-- An n that may be, out of any number. -/
def anyN (n : Int) : Nat := 2 + broughtTo n 7
theorem anyN_may (n : Int) : May (anyN n : Nat) := by
  have := broughtTo_lt n (m := 7) (by omega)
  unfold May anyN
  omega
set_option maxHeartbeats 2000000 in
theorem law_betweenB (w : World) (n : Int) (h1 : -9223372036854775808 ≤ n) (h2 : n ≤ 9223372036854775807) (a : Option Addr) (k c : Nat) (zs : List Int) (hl : IRow w a k zs) (hz : ∀ z ∈ zs, -9223372036854775808 ≤ z ∧ z ≤ 9223372036854775807) (hk : k ≤ 17592186043904) :
    Calls Try.prog 4 #[.int .i64 n, .slice a k c] w fun e w' => e = .returned (.bool true) ∧ After w w' := by
  have HW := hideIt (works_any w)
  have HO := hideIt (fun W => bring_any n 7 W h1 h2 (by omega) (by omega))
  have hmay := anyN_may n
  have hN : ((anyN n : Nat) : Int) = 2 + ((broughtTo n 7 : Nat) : Int) := by unfold anyN; omega
  have hbl := broughtTo_lt n (m := 7) (by omega)
  generalize broughtTo n 7 = b1 at *
  generalize anyN n = N at *
  have HM := hideIt hmay
  have HRi := hideIt (fun W (h : After w W) => rising_any W a k c zs (hl.after h) hz (by omega))
  have n1 : (2 : Int) ≤ (N : Int) := hmay.1
  have n2 : (N : Int) ≤ 8 := hmay.2
  have n3 : 2 + (b1 : Int) = (N : Int) := hN.symm
  have n4 : (b1 : Int) < 7 := by omega
  obtain ⟨K, hK⟩ : ∃ K : Nat, K = min k 200 := ⟨_, rfl⟩
  rw [← hK] at HRi
  have hK2 : K ≤ 200 := by omega
  clear h1 h2 hmay hl hz hN hbl hK hk
  go_enter Try.func4, Try.ntmps4
  go_wp2_with fail
  refine HW.out.mono ?_
  rintro e w1 ⟨rfl, a1⟩
  have A1 := hideIt a1
  have HR := hideIt (HRi.out w1 a1)
  clear a1 HW HRi
  go_wp2_with fail
  refine (HO.out _).mono ?_
  rintro e w' ⟨rfl, hww⟩
  subst w'
  clear HO
  go_wp2_with fail
  refine HR.out.mono ?_
  rintro e w2 ⟨v, rfl, own, a2⟩
  obtain ⟨ra, rc, rfl, ri, -, -, -⟩ := own_irow own
  rw [rs_length] at ri ⊢
  have HRt := hideIt (rate_any w2 N HM.out _ K rc _ ri (rs_rise zs hK2) (by omega))
  have RI := hideIt ri
  have A2 := hideIt (A1.out.trans a2)
  clear own ri a2 HR A1
  go_wp2_with fail
  refine HRt.out.mono ?_
  rintro e w3 ⟨rfl, a3⟩
  have A3 := hideIt (A2.out.trans a3)
  have R3 := hideIt (RI.out.after a3)
  clear a3 A2 RI HRt
  have hlen := rs_length zs K
  by_cases hK0 : K < 2
  · have e1 : rZ N (rs zs K) = -1 := by unfold rZ; rw [if_pos (by omega)]
    have j1 : (K : Int) < 2 := by omega
    rw [e1]
    clear e1 hlen R3
    go_wp2
    go_ret
    exact ⟨rfl, A3.out⟩
  · have e1 : rZ N (rs zs K) = rt (lastN N (rs zs K)) := by unfold rZ; rw [if_neg (by omega)]
    have j1 : ¬ (K : Int) < 2 := by omega
    rw [e1]
    obtain ⟨P, hP⟩ : ∃ P : Nat, P = K - N := ⟨_, rfl⟩
    have hmx : max ((K : Int) - (N : Int)) 0 = (P : Int) := by omega
    have hPK : P + 2 ≤ K := by omega
    have hbt : ∀ lv mv : Nat, 0 < lv → (∀ i, P + 1 ≤ i → i < K → (lv : Int) ≤ (rs zs K).getD i 0 - (rs zs K).getD (i - 1) 0 ∧ (rs zs K).getD i 0 - (rs zs K).getD (i - 1) 0 ≤ (mv : Int)) → rd 1 mv ≤ rt (lastN N (rs zs K)) ∧ rt (lastN N (rs zs K)) ≤ rd 1 lv := fun lv mv h0 h => by
      have hl := lastN_length N (rs zs K)
      refine rt_between (by omega) (by omega) (fun i hi => ?_)
      rw [last_getD, last_getD, hlen, ← hP]
      have := h (P + (i + 1)) (by omega) (by omega)
      rw [show P + (i + 1) - 1 = P + i by omega] at this
      exact this
    have HBT := hideIt hbt
    have HST := hideIt (show ∀ i, 1 ≤ i → i < K → ∃ D : Nat, (rs zs K).getD i 0 - (rs zs K).getD (i - 1) 0 = (D : Int) ∧ 1 ≤ D ∧ D ≤ 1000 ∧ 0 ≤ (rs zs K).getD (i - 1) 0 ∧ (rs zs K).getD i 0 ≤ 200000 from fun i hi hiK => by
      rw [rs_getD zs hiK, rs_getD zs (by omega)]
      have h3 := atT_step zs i
      have h4 := atT_le zs i
      have h5 := atT_le zs (i + 1)
      rw [show i - 1 + 1 = i by omega]
      exact ⟨(atT zs (i + 1) - atT zs i).toNat, by omega, by omega, by omega, by omega, by omega⟩)
    generalize rt (lastN N (rs zs K)) = X at *
    generalize rs zs K = L at *
    have p1 : (P : Int) ≤ 200 := by omega
    have p2 : (K : Int) ≤ 200 := by omega
    clear hP hbt e1 hlen n3 n4
    go_wp2_with fail
    go_loopw [7, 8, 9] (fun l m i wr => ∃ q lv mv : Nat, P + 1 ≤ q ∧ q ≤ K ∧ i = .int .i64 q ∧ l = .int .i64 lv ∧ m = .int .i64 mv ∧ 0 < lv ∧ lv ≤ 1073741824 ∧ mv ≤ 1000 ∧ (P + 2 ≤ q → 0 < mv) ∧ (∀ i, P + 1 ≤ i → i < q → (lv : Int) ≤ L.getD i 0 - L.getD (i - 1) 0 ∧ L.getD i 0 - L.getD (i - 1) 0 ≤ (mv : Int)) ∧ After w3 wr) (fun _ _ i _ => K - (intOf i).toNat)
    case atStart => exact ⟨P + 1, 1073741824, 0, by omega, by omega, by go_num, rfl, rfl, by omega, by omega, by omega, fun h => by omega, fun i h h' => by omega, After.rfl⟩
    case round =>
      obtain ⟨q, lv, mv, hq1, hq2, rfl, rfl, rfl, hl0, hl1, hm1, hm0, hall, af⟩ := hrel
      by_cases hqK : q < K
      · have i1 : (q : Int) < (K : Int) := by omega
        obtain ⟨D, hD, hD1, hD2, hlo, hhi⟩ := HST.out q (by omega) hqK
        obtain ⟨b, off, rfl, -, e0⟩ := (R3.out.after af).cellAt hqK
        obtain ⟨b', off', ee, -, e2⟩ := (R3.out.after af).cellAt (i := q - 1) (by omega)
        cases ee
        have hnew : ∀ i, P + 1 ≤ i → i < q + 1 → ((min lv D : Nat) : Int) ≤ L.getD i 0 - L.getD (i - 1) 0 ∧ L.getD i 0 - L.getD (i - 1) 0 ≤ ((max mv D : Nat) : Int) := fun i h h' => by
          rcases (by omega : i < q ∨ i = q) with h'' | h''
          · have := hall i h h''
            omega
          · subst h''
            omega
        have HAF := hideIt af
        clear hall af hm0
        generalize L.getD q 0 = y at *
        generalize L.getD (q - 1) 0 = x at *
        obtain ⟨r, hr⟩ : ∃ r : Nat, r = q - 1 := ⟨_, rfl⟩
        rw [← hr] at e2
        have i2 : (q : Int) - 1 = (r : Int) := by omega
        have i3 : (r : Int) < (K : Int) := by omega
        have w1 : IntKind.i64.wrap (r : Int) = (r : Int) := IntWalk.i64_in _ (by omega)
        have w2 : IntKind.i64.wrap (D : Int) = (D : Int) := IntWalk.i64_in _ (by omega)
        have m1 : min (lv : Int) (D : Int) = ((min lv D : Nat) : Int) := by omega
        have m2 : max (mv : Int) (D : Int) = ((max mv D : Nat) : Int) := by omega
        obtain ⟨lv', hlv⟩ : ∃ lv' : Nat, lv' = min lv D := ⟨_, rfl⟩
        obtain ⟨mv', hmv⟩ : ∃ mv' : Nat, mv' = max mv D := ⟨_, rfl⟩
        rw [← hlv] at m1 hnew
        rw [← hmv] at m2 hnew
        have HALL := hideIt hnew
        clear hnew
        have HLM := hideIt (And.intro hlv hmv)
        have HQ := hideIt hr
        clear hr hlv hmv
        go_wp2_with fail
        go_quiet (fail)
        go_wp2
        go_roundw
        case rel =>
          obtain ⟨hlv, hmv⟩ := HLM.out
          exact ⟨q + 1, lv', mv', by omega, by omega, by go_num, rfl, rfl, by omega, by omega, by omega, fun _ => by omega, HALL.out, HAF.out.draws _⟩
        case measure => simp [intOf]; omega
      · obtain rfl : q = K := by omega
        have i1 : ¬ (q : Int) < (q : Int) := by omega
        obtain ⟨b1, b2⟩ := HBT.out lv mv hl0 hall
        have hmp := hm0 (by omega)
        have O1 := hideIt (fun W => over_any mv W hmp (by omega))
        have O2 := hideIt (fun W => over_any lv W hl0 (by omega))
        have AF := hideIt (A3.out.trans af)
        clear hall hm0 af
        generalize rd 1 (mv : Int) = Y1 at *
        generalize rd 1 (lv : Int) = Y2 at *
        go_wp2_with fail
        refine (O1.out _).mono ?_
        rintro e w' ⟨rfl, hww⟩
        subst w'
        go_wp2_with fail
        refine (O2.out _).mono ?_
        rintro e w' ⟨rfl, hww⟩
        subst w'
        go_wp2
        go_ret
        exact ⟨rfl, AF.out⟩
end Go.Proofs.Ytihflpoopdgcbaa
