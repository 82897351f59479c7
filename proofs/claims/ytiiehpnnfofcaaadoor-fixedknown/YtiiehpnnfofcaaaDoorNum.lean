/-
  The contracts of the numeric calls of package fixed and of the document's answers: what each call answers, and that the world stands (but for draws).
-/
import Derived.Test.YtiiehpnnfofcaaaDoorRows
import Derived.Test.YtiiehpnnfofcaaaDoorPure
import Derived.WalkKit
import Derived.WalkSpells
import Derived.WalkLawsBesides
namespace Go.Proofs.YtiiehpnnfofcaaaDoor
open Go.RowKit
theorem ret_int {k : IntKind} {a b : Int} (h : a = b) : Ending.returned (.int k a) = .returned (.int k b) := by rw [h]
set_option maxHeartbeats 400000 in
theorem clamp_any (a : Int) (w : World) :
    Calls Tryd.prog 9 #[.int .i64 a] w fun e w' => e = .returned (.int .i64 (cl a)) ∧ w' = w := by
  have hc : cl a = if a < -2147483647 then -2147483647 else if 2147483647 < a then 2147483647 else a := rfl
  by_cases h1 : a < -2147483647
  · rw [if_pos h1] at hc
    rw [hc]; clear hc
    go_enter Tryd.func9, Tryd.ntmps9
    go_wp2
    go_ret
    exact ⟨rfl, rfl⟩
  · rw [if_neg h1] at hc
    by_cases h2 : 2147483647 < a
    · rw [if_pos h2] at hc
      rw [hc]; clear hc
      go_enter Tryd.func9, Tryd.ntmps9
      go_wp2
      go_ret
      exact ⟨rfl, rfl⟩
    · rw [if_neg h2] at hc
      rw [hc]; clear hc
      go_enter Tryd.func9, Tryd.ntmps9
      go_wp2
      go_ret
      exact ⟨rfl, rfl⟩
set_option maxHeartbeats 400000 in
theorem refClamp_any (a : Int) (w : World) :
    Calls Tryd.prog 10 #[.int .i64 a] w fun e w' => e = .returned (.int .i64 (cl a)) ∧ w' = w := by
  go_enter Tryd.func10, Tryd.ntmps10
  go_wp2
  all_goals go_ret
  all_goals exact ⟨ret_int (by unfold cl; split <;> (try split) <;> (try omega)), rfl⟩
set_option maxHeartbeats 400000 in
theorem size_any (a : Int) (w : World) (h1 : -4611686018427387904 ≤ a) (h2 : a ≤ 4611686018427387904) :
    Calls Tryd.prog 31 #[.int .i64 a] w fun e w' => e = .returned (.int .i64 (ab a)) ∧ w' = w := by
  go_enter Tryd.func31, Tryd.ntmps31
  go_wp2
  all_goals go_ret
  all_goals exact ⟨ret_int (by rw [ab_def]; omega), rfl⟩
set_option maxHeartbeats 400000 in
theorem abs_any (a : Int) (w : World) (h1 : -4611686018427387904 ≤ a) (h2 : a ≤ 4611686018427387904) :
    Calls Tryd.prog 26 #[.int .i64 a] w fun e w' => e = .returned (.int .i64 (ab a)) ∧ w' = w := by
  go_enter Tryd.func26, Tryd.ntmps26
  go_wp2
  all_goals go_ret
  all_goals exact ⟨ret_int (by rw [ab_def]; omega), rfl⟩

theorem tdiv_bd (a b : Int) (h1 : -4611686014132420609 ≤ a) (h2 : a ≤ 4611686014132420609) : -4611686014132420609 ≤ a.tdiv b ∧ a.tdiv b ≤ 4611686014132420609 := by
  have h := Int.natAbs_tdiv a b
  have h' : a.natAbs.div b.natAbs ≤ a.natAbs := Nat.div_le_self _ _
  omega
theorem wrap_q (a b : Int) (h1 : -4611686014132420609 ≤ a) (h2 : a ≤ 4611686014132420609) : wrap64 (a.tdiv b) = a.tdiv b := by
  have := tdiv_bd a b h1 h2
  unfold wrap64; omega
theorem tmod_bd (a b : Int) (hb : b ≠ 0) : -(b.natAbs : Int) < a.tmod b ∧ a.tmod b < b.natAbs := by
  have h1 := Int.natAbs_tmod a b
  have h2 : a.natAbs % b.natAbs < b.natAbs := Nat.mod_lt _ (by omega)
  omega
set_option maxHeartbeats 400000 in
theorem rounded_any (a b : Int) (hb : b ≠ 0) (h1 : -4611686014132420609 ≤ a) (h2 : a ≤ 4611686014132420609) (h3 : -2147483647 ≤ b) (h4 : b ≤ 2147483647) (w : World) :
    Calls Tryd.prog 28 #[.int .i64 a, .int .i64 b] w fun e w' => e = .returned (.int .i64 (rd a b)) ∧ ∃ n, w' = w.drewN n := by
  have hq := wrap_q a b h1 h2
  obtain ⟨q1, q2⟩ := tdiv_bd a b h1 h2
  obtain ⟨r1, r2⟩ := tmod_bd a b hb
  rw [← rdGo_eq a b hb]
  have hc : rdGo a b = if 2 * ab (a.tmod b) < ab b then a.tdiv b else if (a < 0 ↔ b < 0) then a.tdiv b + 1 else a.tdiv b - 1 := rfl
  have m0 : 0 ≤ ab (a.tmod b) := by rw [ab_def]; omega
  have m1 : ab (a.tmod b) ≤ 2147483647 := by rw [ab_def]; omega
  have m2 : 0 ≤ ab b := by rw [ab_def]; omega
  have m3 : ab b ≤ 2147483647 := by rw [ab_def]; omega
  have r3 : -2147483647 ≤ a.tmod b := by omega
  have r4 : a.tmod b ≤ 2147483647 := by omega
  clear r1 r2
  by_cases ht : 2 * ab (a.tmod b) < ab b
  · rw [if_pos ht] at hc
    rw [hc]; clear hc
    go_enter Tryd.func28, Tryd.ntmps28
    go_wp2
    go_region
    go_wp2_with (go_at_call 31; refine (size_any _ _ (by omega) (by omega)).mono ?_; rintro e w' ⟨rfl, rfl⟩)
    go_ret
    exact ⟨rfl, 1, rfl⟩
  · rw [if_neg ht] at hc
    by_cases hx : (a < 0 ↔ b < 0)
    · rw [if_pos hx] at hc
      rw [hc]; clear hc
      have hb' : (!decide (a < 0) == decide (b < 0)) = false := by
        by_cases sa : a < 0 <;> by_cases sb : b < 0 <;> simp [sa, sb] <;> omega
      clear hx
      go_enter Tryd.func28, Tryd.ntmps28
      go_wp2
      go_region
      go_wp2_with (go_at_call 31; refine (size_any _ _ (by omega) (by omega)).mono ?_; rintro e w' ⟨rfl, rfl⟩)
      go_ret
      exact ⟨rfl, 1, rfl⟩
    · rw [if_neg hx] at hc
      rw [hc]; clear hc
      have hb' : (!decide (a < 0) == decide (b < 0)) = true := by
        by_cases sa : a < 0 <;> by_cases sb : b < 0 <;> simp [sa, sb] <;> omega
      clear hx
      go_enter Tryd.func28, Tryd.ntmps28
      go_wp2
      go_region
      go_wp2_with (go_at_call 31; refine (size_any _ _ (by omega) (by omega)).mono ?_; rintro e w' ⟨rfl, rfl⟩)
      go_ret
      exact ⟨rfl, 1, rfl⟩

/-- What the walk of 'over' wants of a quotient and its rest. -/
theorem quo_facts (n d : Int) (hn : 0 ≤ n) (h2 : n ≤ 4611686014132420609) (hd : 0 < d) (h4 : d ≤ 2147483647) : 0 ≤ n / d ∧ n / d ≤ 4611686014132420609 ∧ 0 ≤ n % d ∧ n % d ≤ 2147483647 := by
  have a1 := Int.ediv_nonneg hn (show 0 ≤ d by omega)
  have a2 := Int.ediv_le_self d hn
  have a3 := Int.emod_nonneg n (show d ≠ 0 by omega)
  have a4 := Int.emod_lt_of_pos n hd
  omega
set_option maxHeartbeats 400000 in
theorem over_pp (n d : Int) (hn : 0 ≤ n) (h2 : n ≤ 4611686014132420609) (hd : 0 < d) (h4 : d ≤ 2147483647) (w : World) :
    Calls Tryd.prog 29 #[.int .i64 n, .int .i64 d] w fun e w' => e = .returned (.int .i64 (cl (up n d))) ∧ w' = w := by
  obtain ⟨q0, q1, m0, m1⟩ := quo_facts n d hn h2 hd h4
  rw [up_eq n d hn hd]
  by_cases ht : 2 * (n % d) < d
  · rw [if_pos ht]
    go_enter Tryd.func29, Tryd.ntmps29
    go_wp2_with (go_at_call 10; refine (refClamp_any _ _).mono ?_; rintro e w' ⟨rfl, rfl⟩)
    go_ret
    exact ⟨rfl, rfl⟩
  · rw [if_neg ht]
    go_enter Tryd.func29, Tryd.ntmps29
    go_wp2_with (go_at_call 10; refine (refClamp_any _ _).mono ?_; rintro e w' ⟨rfl, rfl⟩)
    go_ret
    exact ⟨rfl, rfl⟩
set_option maxHeartbeats 400000 in
theorem over_np (n d : Int) (hn : 0 < n) (h2 : n ≤ 4611686014132420609) (hd : 0 < d) (h4 : d ≤ 2147483647) (w : World) :
    Calls Tryd.prog 29 #[.int .i64 (-n), .int .i64 d] w fun e w' => e = .returned (.int .i64 (cl (- up n d))) ∧ w' = w := by
  obtain ⟨q0, q1, m0, m1⟩ := quo_facts n d (by omega) h2 hd h4
  rw [up_eq n d (by omega) hd]
  by_cases ht : 2 * (n % d) < d
  · rw [if_pos ht]
    go_enter Tryd.func29, Tryd.ntmps29
    go_wp2_with (go_at_call 10; refine (refClamp_any _ _).mono ?_; rintro e w' ⟨rfl, rfl⟩)
    go_ret
    exact ⟨rfl, rfl⟩
  · rw [if_neg ht]
    go_enter Tryd.func29, Tryd.ntmps29
    go_wp2_with (go_at_call 10; refine (refClamp_any _ _).mono ?_; rintro e w' ⟨rfl, rfl⟩)
    go_ret
    exact ⟨rfl, rfl⟩
set_option maxHeartbeats 400000 in
theorem over_pn (n d : Int) (hn : 0 < n) (h2 : n ≤ 4611686014132420609) (hd : 0 < d) (h4 : d ≤ 2147483647) (w : World) :
    Calls Tryd.prog 29 #[.int .i64 n, .int .i64 (-d)] w fun e w' => e = .returned (.int .i64 (cl (- up n d))) ∧ w' = w := by
  obtain ⟨q0, q1, m0, m1⟩ := quo_facts n d (by omega) h2 hd h4
  rw [up_eq n d (by omega) hd]
  by_cases ht : 2 * (n % d) < d
  · rw [if_pos ht]
    go_enter Tryd.func29, Tryd.ntmps29
    go_wp2_with (go_at_call 10; refine (refClamp_any _ _).mono ?_; rintro e w' ⟨rfl, rfl⟩)
    go_ret
    exact ⟨rfl, rfl⟩
  · rw [if_neg ht]
    go_enter Tryd.func29, Tryd.ntmps29
    go_wp2_with (go_at_call 10; refine (refClamp_any _ _).mono ?_; rintro e w' ⟨rfl, rfl⟩)
    go_ret
    exact ⟨rfl, rfl⟩
set_option maxHeartbeats 400000 in
theorem over_zn (d : Int) (hd : 0 < d) (h4 : d ≤ 2147483647) (w : World) :
    Calls Tryd.prog 29 #[.int .i64 0, .int .i64 (-d)] w fun e w' => e = .returned (.int .i64 (cl 0)) ∧ w' = w := by
  go_enter Tryd.func29, Tryd.ntmps29
  go_wp2_with (go_at_call 10; refine (refClamp_any _ _).mono ?_; rintro e w' ⟨rfl, rfl⟩)
  go_ret
  exact ⟨rfl, rfl⟩
set_option maxHeartbeats 400000 in
theorem over_nn (n d : Int) (hn : 0 < n) (h2 : n ≤ 4611686014132420609) (hd : 0 < d) (h4 : d ≤ 2147483647) (w : World) :
    Calls Tryd.prog 29 #[.int .i64 (-n), .int .i64 (-d)] w fun e w' => e = .returned (.int .i64 (cl (up n d))) ∧ w' = w := by
  obtain ⟨q0, q1, m0, m1⟩ := quo_facts n d (by omega) h2 hd h4
  rw [up_eq n d (by omega) hd]
  by_cases ht : 2 * (n % d) < d
  · rw [if_pos ht]
    go_enter Tryd.func29, Tryd.ntmps29
    go_wp2_with (go_at_call 10; refine (refClamp_any _ _).mono ?_; rintro e w' ⟨rfl, rfl⟩)
    go_ret
    exact ⟨rfl, rfl⟩
  · rw [if_neg ht]
    go_enter Tryd.func29, Tryd.ntmps29
    go_wp2_with (go_at_call 10; refine (refClamp_any _ _).mono ?_; rintro e w' ⟨rfl, rfl⟩)
    go_ret
    exact ⟨rfl, rfl⟩
theorem over_any (a b : Int) (hb : b ≠ 0) (h1 : -4611686014132420609 ≤ a) (h2 : a ≤ 4611686014132420609) (h3 : -2147483647 ≤ b) (h4 : b ≤ 2147483647) (w : World) :
    Calls Tryd.prog 29 #[.int .i64 a, .int .i64 b] w fun e w' => e = .returned (.int .i64 (cl (rd a b))) ∧ w' = w := by
  by_cases sb : 0 < b
  · by_cases sa : 0 ≤ a
    · rw [rd_pp a b sa sb]; exact over_pp a b sa h2 sb h4 w
    · have e1 := rd_neg (-a) b hb
      rw [Int.neg_neg, rd_pp (-a) b (by omega) sb] at e1
      have := over_np (-a) b (by omega) (by omega) sb h4 w
      rw [Int.neg_neg] at this
      rw [e1]; exact this
  · have e2 := rd_negd a (-b) (by omega)
    rw [Int.neg_neg] at e2
    by_cases sa : 0 < a
    · have := over_pn a (-b) sa h2 (by omega) (by omega) w
      rw [Int.neg_neg] at this
      rw [e2, rd_pp a (-b) (by omega) (by omega)]; exact this
    · by_cases sz : a = 0
      · subst sz
        have := over_zn (-b) (by omega) (by omega) w
        rw [Int.neg_neg] at this
        rw [e2, rd_pp 0 (-b) (by omega) (by omega), up_zero _ (by omega)]; exact this
      · have e1 := rd_neg (-a) (-b) (by omega)
        rw [Int.neg_neg, rd_pp (-a) (-b) (by omega) (by omega)] at e1
        have := over_nn (-a) (-b) (by omega) (by omega) (by omega) (by omega) w
        rw [Int.neg_neg, Int.neg_neg] at this
        rw [e2, e1, Int.neg_neg]; exact this
end Go.Proofs.YtiiehpnnfofcaaaDoor
