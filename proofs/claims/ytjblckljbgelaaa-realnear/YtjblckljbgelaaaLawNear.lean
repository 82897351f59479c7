/-
  The walk of RealNear: thousandths are near what they are of.
-/
import Derived.Test.YtjblckljbgelaaaNearP
import Derived.Test.YtjblckljbgelaaaWorks
namespace Go.Proofs.Ytjblckljbgelaaa
open Go.RowKit
/-- All that one round wants. -/
theorem near_facts (n : Int) (h1 : -2147483647 ≤ n) (h2 : n ≤ 2147483647) : ∃ m e b, ofM n = m ∧ ofE n = e ∧ numB 0 m e = true ∧ fixZ m e = b ∧ plE 0 m e = 0 ∧ -128 ≤ e ∧ e ≤ 127 ∧ -2147483647 ≤ b ∧ b ≤ 2147483647 ∧ (ab n ≤ 8388605 → b = n) ∧ ab (b - n) ≤ ab n / 1500000 + 1 ∧ (n ≠ 0 → ¬ m.tmod 10 = 0) := by
  obtain ⟨p1, p2, p3, p4⟩ := near_pure n h1 h2
  have hb := num_bd p1
  refine ⟨_, _, _, rfl, rfl, p1, rfl, ?_, hb.2.2.2.1, hb.2.2.2.2, ?_, ?_, p2, p3, fun h => fun x => p4 h ((tmod10 _).1 x)⟩
  · unfold plE; rw [if_pos (mayB_iff.2 (by omega))]
  · rw [fix_eq]; exact cl_lo _
  · rw [fix_eq]; exact cl_hi _
set_option maxHeartbeats 4000000 in
theorem near_walk (v : Int) (_h1 : -9223372036854775808 ≤ v) (_h2 : v ≤ 9223372036854775807) (w : World) :
    Calls Try.prog 7 #[.int .i64 v] w fun e w' => e = .returned (.bool true) ∧ After w w' := by
  go_enter Try.func7, Try.ntmps7
  go_wp2_with fail
  refine (works_any _).mono ?_
  rintro e' w0 ⟨rfl, A0⟩
  go_wp2_with fail
  go_loopw [3] (fun i W => ∃ k : Int, 0 ≤ k ∧ k ≤ 42 ∧ i = .int .i64 k ∧ After w W) (fun i _ => (42 - intOf i).toNat)
  case atStart => exact ⟨0, by omega, by omega, rfl, A0⟩
  case round =>
    obtain ⟨k, hk0, hk, rfl, HA⟩ := hrel
    clear A0
    by_cases hlt : k < 40
    · obtain ⟨n, hn⟩ : ∃ n, cl (v / 2 ^ k.toNat) = n := ⟨_, rfl⟩
      have n1 : -2147483647 ≤ n := hn ▸ cl_lo _
      have n2 : n ≤ 2147483647 := hn ▸ cl_hi _
      have HN := hideIt hn
      obtain ⟨m, e, b, q1, q2, nb, q3, q4, e1, e2, b1, b2, q5, q6, q7⟩ := near_facts n n1 n2
      have HQ := hideIt (And.intro q1 q2)
      have HF := hideIt q3
      have HP := hideIt q4
      have ab0 : 0 ≤ ab n := by rw [ab_def]; omega
      have ab1 : ab n ≤ 2147483647 := by rw [ab_def]; omega
      have ab2 : 0 ≤ ab (b - n) := by rw [ab_def]; omega
      have ab3 : ab (b - n) ≤ 4294967294 := by rw [ab_def]; omega
      clear hn q1 q2 q3 q4
      by_cases hz : n = 0
      · have hab : ab n = 0 := by rw [ab_def, hz]; rfl
        have hbn := q5 (by omega)
        subst hz
        subst hbn
        clear q5 q7 hab
        have hs0 : ab 0 ≤ 8388605 := by decide
        have hs1 : ab (0 - 0) ≤ ab 0 / 1500000 + 1 := by decide
        go_wp2_with fail
        refine (clamp_any _ _).mono ?_
        rintro e' w1 ⟨rfl, rfl⟩
        rw [HN.out]
        go_wp2_with fail
        refine (of_any 0 _).mono ?_
        rintro e' w2 ⟨rfl, A2⟩
        rw [HQ.out.1, HQ.out.2]
        replace HA := HA.trans A2
        clear A2
        go_wp2_with fail
        refine (fixed_yes 0 m e _ nb e1 e2).mono ?_
        rintro e' w3 ⟨rfl, A3⟩
        rw [HF.out]
        obtain ⟨c3, f3⟩ := A3.cell
        go_wp2_with fail
        refine (packLong_any 0 m e _).mono ?_
        rintro e' w4 ⟨rfl, A4⟩
        rw [HP.out]
        replace A4 := A3.trans A4
        clear c3 f3 A3
        obtain ⟨c4, f4⟩ := A4.cell
        go_wp2_with (first | (go_at_call 23; refine (abs_any _ _ (by omega) (by omega)).mono ?_; rintro e' w5 ⟨rfl, rfl⟩))
        all_goals
          go_roundw
          case rel => exact ⟨k + 3, by omega, by omega, rfl, (HA.alloc _).trans A4⟩
          case measure => simp [intOf]; omega
      · have ht' : (m.tmod 10 == 0) = false := by simpa using q7 hz
        have hz' : (n == 0) = false := by simpa using hz
        clear q7
        by_cases hs : ab n ≤ 8388605
        · have hbn := (q5 hs).symm
          subst hbn
          rw [Int.sub_self] at q6 ab2 ab3
          clear q5
          go_wp2_with fail
          refine (clamp_any _ _).mono ?_
          rintro e' w1 ⟨rfl, rfl⟩
          rw [HN.out]
          go_wp2_with fail
          refine (of_any n _).mono ?_
          rintro e' w2 ⟨rfl, A2⟩
          rw [HQ.out.1, HQ.out.2]
          replace HA := HA.trans A2
          clear A2
          go_wp2_with fail
          refine (fixed_yes 0 m e _ nb e1 e2).mono ?_
          rintro e' w3 ⟨rfl, A3⟩
          rw [HF.out]
          obtain ⟨c3, f3⟩ := A3.cell
          go_wp2_with fail
          refine (packLong_any 0 m e _).mono ?_
          rintro e' w4 ⟨rfl, A4⟩
          rw [HP.out]
          replace A4 := A3.trans A4
          clear c3 f3 A3
          obtain ⟨c4, f4⟩ := A4.cell
          go_wp2_with (first | (go_at_call 23; refine (abs_any _ _ (by omega) (by omega)).mono ?_; rintro e' w5 ⟨rfl, rfl⟩))
          go_roundw
          case rel => exact ⟨k + 3, by omega, by omega, rfl, (HA.alloc _).trans A4⟩
          case measure => simp [intOf]; omega
        · clear q5
          go_wp2_with fail
          refine (clamp_any _ _).mono ?_
          rintro e' w1 ⟨rfl, rfl⟩
          rw [HN.out]
          go_wp2_with fail
          refine (of_any n _).mono ?_
          rintro e' w2 ⟨rfl, A2⟩
          rw [HQ.out.1, HQ.out.2]
          replace HA := HA.trans A2
          clear A2
          go_wp2_with fail
          refine (fixed_yes 0 m e _ nb e1 e2).mono ?_
          rintro e' w3 ⟨rfl, A3⟩
          rw [HF.out]
          obtain ⟨c3, f3⟩ := A3.cell
          go_wp2_with fail
          refine (packLong_any 0 m e _).mono ?_
          rintro e' w4 ⟨rfl, A4⟩
          rw [HP.out]
          replace A4 := A3.trans A4
          clear c3 f3 A3
          obtain ⟨c4, f4⟩ := A4.cell
          go_wp2_with (first | (go_at_call 23; refine (abs_any _ _ (by omega) (by omega)).mono ?_; rintro e' w5 ⟨rfl, rfl⟩))
          go_roundw
          case rel => exact ⟨k + 3, by omega, by omega, rfl, (HA.alloc _).trans A4⟩
          case measure => simp [intOf]; omega
    · go_wp2
      go_ret
      exact ⟨rfl, HA⟩
end Go.Proofs.Ytjblckljbgelaaa
