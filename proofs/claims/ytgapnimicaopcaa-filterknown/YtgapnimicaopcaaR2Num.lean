/-
  The contracts of Clamp, size, rounded, Scale of package fixed, and of the document's Clamp and Abs.
-/
import Derived.Test.YtgapnimicaopcaaR2May
namespace Go.Proofs.Ytgapnimicaopcaa.L2
open Go.RowKit
set_option maxHeartbeats 400000 in
theorem clamp_any (a : Int) (w : World) :
    Calls Try.prog 34 #[.int .i64 a] w fun e w' => e = .returned (.int .i64 (cl a)) ∧ w' = w := by
  have hc : cl a = if a < -2147483647 then -2147483647 else if 2147483647 < a then 2147483647 else a := rfl
  by_cases h1 : a < -2147483647
  · rw [if_pos h1] at hc
    rw [hc]; clear hc
    go_enter Try.func34, Try.ntmps34
    go_wp2
    go_ret
    exact ⟨rfl, rfl⟩
  · rw [if_neg h1] at hc
    by_cases h2 : 2147483647 < a
    · rw [if_pos h2] at hc
      rw [hc]; clear hc
      go_enter Try.func34, Try.ntmps34
      go_wp2
      go_ret
      exact ⟨rfl, rfl⟩
    · rw [if_neg h2] at hc
      rw [hc]; clear hc
      go_enter Try.func34, Try.ntmps34
      go_wp2
      go_ret
      exact ⟨rfl, rfl⟩
set_option maxHeartbeats 400000 in
theorem size_any (a : Int) (w : World) (h1 : -4611686018427387904 ≤ a) (h2 : a ≤ 4611686018427387904) :
    Calls Try.prog 45 #[.int .i64 a] w fun e w' => e = .returned (.int .i64 (ab a)) ∧ w' = w := by
  go_enter Try.func45, Try.ntmps45
  go_wp2
  all_goals go_ret
  all_goals exact ⟨ret_int (by rw [ab_def]; omega), rfl⟩
theorem tdiv_bd (a b : Int) (h1 : -4611686014132420609 ≤ a) (h2 : a ≤ 4611686014132420609) : -4611686014132420609 ≤ a.tdiv b ∧ a.tdiv b ≤ 4611686014132420609 := by
  have h := Int.natAbs_tdiv a b
  have h' : a.natAbs.div b.natAbs ≤ a.natAbs := Nat.div_le_self _ _
  omega
theorem wrap_q (a b : Int) (h1 : -4611686014132420609 ≤ a) (h2 : a ≤ 4611686014132420609) : wrap64 (a.tdiv b) = a.tdiv b := by
  have := tdiv_bd a b h1 h2
  unfold wrap64; omega
theorem tmod_bd (a b : Int) (hb : b ≠ 0) : -(b.natAbs : Int) < a.tmod b ∧ a.tmod b < b.natAbs := by
  have h1 := Int.natAbs_tmod a b
  have h2 : a.natAbs % b.natAbs < b.natAbs := Nat.mod_lt _ (by omega)
  omega
set_option maxHeartbeats 400000 in
theorem rounded_any (a b : Int) (hb : b ≠ 0) (h1 : -4611686014132420609 ≤ a) (h2 : a ≤ 4611686014132420609) (h3 : -2147483647 ≤ b) (h4 : b ≤ 2147483647) (w : World) :
    Calls Try.prog 35 #[.int .i64 a, .int .i64 b] w fun e w' => e = .returned (.int .i64 (rd a b)) ∧ ∃ n, w' = w.drewN n := by
  have hq := wrap_q a b h1 h2
  obtain ⟨q1, q2⟩ := tdiv_bd a b h1 h2
  obtain ⟨r1, r2⟩ := tmod_bd a b hb
  rw [← rdGo_eq a b hb]
  have hc : rdGo a b = if 2 * ab (a.tmod b) < ab b then a.tdiv b else if (a < 0 ↔ b < 0) then a.tdiv b + 1 else a.tdiv b - 1 := rfl
  have m0 : 0 ≤ ab (a.tmod b) := by rw [ab_def]; omega
  have m1 : ab (a.tmod b) ≤ 2147483647 := by rw [ab_def]; omega
  have m2 : 0 ≤ ab b := by rw [ab_def]; omega
  have m3 : ab b ≤ 2147483647 := by rw [ab_def]; omega
  have r3 : -2147483647 ≤ a.tmod b := by omega
  have r4 : a.tmod b ≤ 2147483647 := by omega
  clear r1 r2
  by_cases ht : 2 * ab (a.tmod b) < ab b
  · rw [if_pos ht] at hc
    rw [hc]; clear hc
    go_enter Try.func35, Try.ntmps35
    go_wp2
    go_region
    go_wp2_with (go_at_call 45; refine (size_any _ _ (by omega) (by omega)).mono ?_; rintro e w' ⟨rfl, rfl⟩)
    go_ret
    exact ⟨rfl, 1, rfl⟩
  · rw [if_neg ht] at hc
    by_cases hx : (a < 0 ↔ b < 0)
    · rw [if_pos hx] at hc
      rw [hc]; clear hc
      have hb' : (!decide (a < 0) == decide (b < 0)) = false := by
        by_cases sa : a < 0 <;> by_cases sb : b < 0 <;> simp [sa, sb] <;> omega
      clear hx
      go_enter Try.func35, Try.ntmps35
      go_wp2
      go_region
      go_wp2_with (go_at_call 45; refine (size_any _ _ (by omega) (by omega)).mono ?_; rintro e w' ⟨rfl, rfl⟩)
      go_ret
      exact ⟨rfl, 1, rfl⟩
    · rw [if_neg hx] at hc
      rw [hc]; clear hc
      have hb' : (!decide (a < 0) == decide (b < 0)) = true := by
        by_cases sa : a < 0 <;> by_cases sb : b < 0 <;> simp [sa, sb] <;> omega
      clear hx
      go_enter Try.func35, Try.ntmps35
      go_wp2
      go_region
      go_wp2_with (go_at_call 45; refine (size_any _ _ (by omega) (by omega)).mono ?_; rintro e w' ⟨rfl, rfl⟩)
      go_ret
      exact ⟨rfl, 1, rfl⟩

set_option maxHeartbeats 400000 in
theorem scale_any (v n d : Int) (w : World) :
    Calls Try.prog 23 #[.int .i64 v, .int .i64 n, .int .i64 d] w fun e w' => e = .returned (.tuple #[.int .i64 (scaleZ v n d), .int .i64 (scaleE d)]) ∧ ∃ n, w' = w.drewN n := by
  unfold scaleZ scaleE
  by_cases hd : d = 0
  · rw [if_pos hd, if_pos hd]
    subst hd
    go_enter Try.func23, Try.ntmps23
    go_wp2
    go_ret2
    exact ⟨rfl, 0, rfl⟩
  · rw [if_neg hd, if_neg hd]
    have a1 := prod_lo v n; have a2 := prod_hi v n
    have d1 := cl_lo d; have d2 := cl_hi d
    have d3 : cl d ≠ 0 := fun h => hd ((cl_zero d).1 h)
    go_enter Try.func23, Try.ntmps23
    go_wp2_with (first
      | (go_at_call 34; refine (clamp_any _ _).mono ?_; rintro e w' ⟨rfl, rfl⟩)
      | (go_at_call 35; refine (rounded_any _ _ d3 (by omega) (by omega) (by omega) (by omega) _).mono ?_; rintro e w' ⟨rfl, n, rfl⟩))
    go_ret2
    exact ⟨rfl, _, rfl⟩
end Go.Proofs.Ytgapnimicaopcaa.L2
