/-
  The contracts of Clamp, size, rounded, Scale of package fixed, and of the document's Clamp and Abs.
-/
import Derived.Test.YtgapnimicaopcaaGreatR2May
namespace Go.Proofs.YtgapnimicaopcaaGreat.L2
open Go.RowKit
set_option maxHeartbeats 400000 in
theorem clamp_any (a : Int) (w : World) :
    Calls Tryz.prog 65 #[.int .i64 a] w fun e w' => e = .returned (.int .i64 (cl a)) ∧ w' = w := by
  have hc : cl a = if a < -2147483647 then -2147483647 else if 2147483647 < a then 2147483647 else a := rfl
  by_cases h1 : a < -2147483647
  · rw [if_pos h1] at hc
    rw [hc]; clear hc
    go_enter Tryz.func65, Tryz.ntmps65
    go_wp2
    go_ret
    exact ⟨rfl, rfl⟩
  · rw [if_neg h1] at hc
    by_cases h2 : 2147483647 < a
    · rw [if_pos h2] at hc
      rw [hc]; clear hc
      go_enter Tryz.func65, Tryz.ntmps65
      go_wp2
      go_ret
      exact ⟨rfl, rfl⟩
    · rw [if_neg h2] at hc
      rw [hc]; clear hc
      go_enter Tryz.func65, Tryz.ntmps65
      go_wp2
      go_ret
      exact ⟨rfl, rfl⟩
set_option maxHeartbeats 400000 in
theorem refClamp_any (a : Int) (w : World) :
    Calls Tryz.prog 44 #[.int .i64 a] w fun e w' => e = .returned (.int .i64 (cl a)) ∧ w' = w := by
  go_enter Tryz.func44, Tryz.ntmps44
  go_wp2
  all_goals go_ret
  all_goals exact ⟨ret_int (by unfold cl; split <;> (try split) <;> (try omega)), rfl⟩
set_option maxHeartbeats 400000 in
theorem size_any (a : Int) (w : World) (h1 : -4611686018427387904 ≤ a) (h2 : a ≤ 4611686018427387904) :
    Calls Tryz.prog 69 #[.int .i64 a] w fun e w' => e = .returned (.int .i64 (ab a)) ∧ w' = w := by
  go_enter Tryz.func69, Tryz.ntmps69
  go_wp2
  all_goals go_ret
  all_goals exact ⟨ret_int (by rw [ab_def]; omega), rfl⟩
theorem tdiv_bd (a b : Int) (h1 : -4611686014132420609 ≤ a) (h2 : a ≤ 4611686014132420609) : -4611686014132420609 ≤ a.tdiv b ∧ a.tdiv b ≤ 4611686014132420609 := by
  have h := Int.natAbs_tdiv a b
  have h' : a.natAbs.div b.natAbs ≤ a.natAbs := Nat.div_le_self _ _
  omega
theorem wrap_q (a b : Int) (h1 : -4611686014132420609 ≤ a) (h2 : a ≤ 4611686014132420609) : wrap64 (a.tdiv b) = a.tdiv b := by
  have := tdiv_bd a b h1 h2
  unfold wrap64; omega
theorem tmod_bd (a b : Int) (hb : b ≠ 0) : -(b.natAbs : Int) < a.tmod b ∧ a.tmod b < b.natAbs := by
  have h1 := Int.natAbs_tmod a b
  have h2 : a.natAbs % b.natAbs < b.natAbs := Nat.mod_lt _ (by omega)
  omega
set_option maxHeartbeats 400000 in
theorem rounded_any (a b : Int) (hb : b ≠ 0) (h1 : -4611686014132420609 ≤ a) (h2 : a ≤ 4611686014132420609) (h3 : -2147483647 ≤ b) (h4 : b ≤ 2147483647) (w : World) :
    Calls Tryz.prog 66 #[.int .i64 a, .int .i64 b] w fun e w' => e = .returned (.int .i64 (rd a b)) ∧ ∃ n, w' = w.drewN n := by
  have hq := wrap_q a b h1 h2
  obtain ⟨q1, q2⟩ := tdiv_bd a b h1 h2
  obtain ⟨r1, r2⟩ := tmod_bd a b hb
  rw [← rdGo_eq a b hb]
  have hc : rdGo a b = if 2 * ab (a.tmod b) < ab b then a.tdiv b else if (a < 0 ↔ b < 0) then a.tdiv b + 1 else a.tdiv b - 1 := rfl
  have m0 : 0 ≤ ab (a.tmod b) := by rw [ab_def]; omega
  have m1 : ab (a.tmod b) ≤ 2147483647 := by rw [ab_def]; omega
  have m2 : 0 ≤ ab b := by rw [ab_def]; omega
  have m3 : ab b ≤ 2147483647 := by rw [ab_def]; omega
  have r3 : -2147483647 ≤ a.tmod b := by omega
  have r4 : a.tmod b ≤ 2147483647 := by omega
  clear r1 r2
  by_cases ht : 2 * ab (a.tmod b) < ab b
  · rw [if_pos ht] at hc
    rw [hc]; clear hc
    go_enter Tryz.func66, Tryz.ntmps66
    go_wp2
    go_region
    go_wp2_with (go_at_call 69; refine (size_any _ _ (by omega) (by omega)).mono ?_; rintro e w' ⟨rfl, rfl⟩)
    go_ret
    exact ⟨rfl, 1, rfl⟩
  · rw [if_neg ht] at hc
    by_cases hx : (a < 0 ↔ b < 0)
    · rw [if_pos hx] at hc
      rw [hc]; clear hc
      have hb' : (!decide (a < 0) == decide (b < 0)) = false := by
        by_cases sa : a < 0 <;> by_cases sb : b < 0 <;> simp [sa, sb] <;> omega
      clear hx
      go_enter Tryz.func66, Tryz.ntmps66
      go_wp2
      go_region
      go_wp2_with (go_at_call 69; refine (size_any _ _ (by omega) (by omega)).mono ?_; rintro e w' ⟨rfl, rfl⟩)
      go_ret
      exact ⟨rfl, 1, rfl⟩
    · rw [if_neg hx] at hc
      rw [hc]; clear hc
      have hb' : (!decide (a < 0) == decide (b < 0)) = true := by
        by_cases sa : a < 0 <;> by_cases sb : b < 0 <;> simp [sa, sb] <;> omega
      clear hx
      go_enter Tryz.func66, Tryz.ntmps66
      go_wp2
      go_region
      go_wp2_with (go_at_call 69; refine (size_any _ _ (by omega) (by omega)).mono ?_; rintro e w' ⟨rfl, rfl⟩)
      go_ret
      exact ⟨rfl, 1, rfl⟩

set_option maxHeartbeats 400000 in
theorem scale_any (v n d : Int) (w : World) :
    Calls Tryz.prog 57 #[.int .i64 v, .int .i64 n, .int .i64 d] w fun e w' => e = .returned (.tuple #[.int .i64 (scaleZ v n d), .int .i64 (scaleE d)]) ∧ ∃ n, w' = w.drewN n := by
  unfold scaleZ scaleE
  by_cases hd : d = 0
  · rw [if_pos hd, if_pos hd]
    subst hd
    go_enter Tryz.func57, Tryz.ntmps57
    go_wp2
    go_ret2
    exact ⟨rfl, 0, rfl⟩
  · rw [if_neg hd, if_neg hd]
    have a1 := prod_lo v n; have a2 := prod_hi v n
    have d1 := cl_lo d; have d2 := cl_hi d
    have d3 : cl d ≠ 0 := fun h => hd ((cl_zero d).1 h)
    go_enter Tryz.func57, Tryz.ntmps57
    go_wp2_with (first
      | (go_at_call 65; refine (clamp_any _ _).mono ?_; rintro e w' ⟨rfl, rfl⟩)
      | (go_at_call 66; refine (rounded_any _ _ d3 (by omega) (by omega) (by omega) (by omega) _).mono ?_; rintro e w' ⟨rfl, n, rfl⟩))
    go_ret2
    exact ⟨rfl, _, rfl⟩
end Go.Proofs.YtgapnimicaopcaaGreat.L2
