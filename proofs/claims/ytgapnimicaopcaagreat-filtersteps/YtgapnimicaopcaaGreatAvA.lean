/-
  Where a mean lies in memory; Clamp, size, rounded, Scale of package fixed; New, isNone and sum of package average.
-/
import Derived.Test.YtgapnimicaopcaaGreatAvP
import Derived.Test.YtgapnimicaopcaaGreatBlk
namespace Go.Proofs.YtgapnimicaopcaaGreat.L10
open Go.RowKit
set_option maxRecDepth 8000
theorem clamp_any (a : Int) (w : World) : Calls Tryz.prog 65 #[.int .i64 a] w fun e w' => e = .returned (.int .i64 (clampZ a)) ∧ w' = w := by
  rcases (by unfold clampZ; omega : (a < -2147483647 ∧ clampZ a = -2147483647) ∨ (¬ a < -2147483647 ∧ 2147483647 < a ∧ clampZ a = 2147483647) ∨ (¬ a < -2147483647 ∧ ¬ 2147483647 < a ∧ clampZ a = a)) with ⟨h1, hc⟩ | ⟨h1, h2, hc⟩ | ⟨h1, h2, hc⟩
  all_goals
    rw [hc]
    clear hc
    go_enter Tryz.func65, Tryz.ntmps65
    go_wp2
    go_ret
    exact ⟨rfl, rfl⟩
theorem refClamp_any (a : Int) (w : World) : Calls Tryz.prog 44 #[.int .i64 a] w fun e w' => e = .returned (.int .i64 (clampZ a)) ∧ w' = w := by
  rcases (by unfold clampZ; omega : (a < -2147483647 ∧ clampZ a = -2147483647) ∨ (¬ a < -2147483647 ∧ 2147483647 < a ∧ clampZ a = 2147483647) ∨ (¬ a < -2147483647 ∧ ¬ 2147483647 < a ∧ clampZ a = a)) with ⟨h1, hc⟩ | ⟨h1, h2, hc⟩ | ⟨h1, h2, hc⟩
  all_goals
    rw [hc]
    clear hc
    go_enter Tryz.func44, Tryz.ntmps44
    go_wp2
    go_ret
    exact ⟨rfl, rfl⟩
theorem clamp_in {a : Int} (h1 : -2147483647 ≤ a) (h2 : a ≤ 2147483647) (w : World) : Calls Tryz.prog 65 #[.int .i64 a] w fun e w' => e = .returned (.int .i64 a) ∧ w' = w := by
  have h := clamp_any a w
  rw [show clampZ a = a by unfold clampZ; omega] at h
  exact h
/-- How far from 0. -/
def ab (a : Int) : Int := max a (-a)
theorem size_any (a : Int) (w : World) (h1 : -1000 ≤ a) (h2 : a ≤ 1000) : Calls Tryz.prog 69 #[.int .i64 a] w fun e w' => e = .returned (.int .i64 (ab a)) ∧ w' = w := by
  go_enter Tryz.func69, Tryz.ntmps69
  go_wp2
  all_goals go_ret
  all_goals exact ⟨ret_int (by unfold ab; omega), rfl⟩
/-- Draws alone. -/
def Dr (w w' : World) : Prop := ∃ m, w' = w.drewN m
theorem Dr.rfl {w : World} : Dr w w := ⟨0, Eq.refl _⟩
theorem Dr.drew {w w' : World} (h : Dr w w') : Dr w w'.drew := by
  obtain ⟨m, e⟩ := h
  subst e
  exact ⟨m + 1, Eq.refl _⟩
theorem Dr.after {w w' : World} (h : Dr w w') : After w w' := by
  obtain ⟨m, e⟩ := h
  subst e
  exact After.rfl.draws m
set_option maxHeartbeats 1000000 in
theorem rounded_part (r : Int) (k : Nat) (hk : 0 < k) (hk2 : k ≤ 15) (h1 : -(k : Int) < r) (h2 : r < (k : Int)) (w : World) :
    Calls Tryz.prog 66 #[.int .i64 r, .int .i64 k] w fun e w' => e = .returned (.int .i64 (part r k)) ∧ Dr w w' := by
  have t1 : r.tdiv (k : Int) = 0 := by
    rcases (by omega : 0 ≤ r ∨ r < 0) with h | h
    · rw [Int.tdiv_eq_ediv_of_nonneg h, Int.ediv_eq_zero_of_lt h h2]
    · obtain ⟨t, rfl⟩ : ∃ t, r = -t := ⟨-r, by omega⟩
      rw [Int.neg_tdiv, Int.tdiv_eq_ediv_of_nonneg (by omega), Int.ediv_eq_zero_of_lt (by omega) (by omega)]
      rfl
  have t2 : r.tmod (k : Int) = r := by
    have := Int.mul_tdiv_add_tmod r (k : Int)
    rw [t1] at this
    omega
  have hab : ab (k : Int) = (k : Int) := by unfold ab; omega
  have har : ab r = if r < 0 then -r else r := by unfold ab; split <;> omega
  have HS := hideIt (fun W => size_any r W (by omega) (by omega))
  have HK := hideIt (fun W => size_any (k : Int) W (by omega) (by omega))
  rw [hab] at HK
  have k1 : (k : Int) ≤ 15 := by omega
  have k2 : ¬ (k : Int) = 0 := by omega
  have k3 : ¬ (k : Int) < 0 := by omega
  rcases (by unfold part; split <;> split <;> omega : (2 * ab r < (k : Int) ∧ part r k = 0) ∨ (¬ 2 * ab r < (k : Int) ∧ r < 0 ∧ part r k = -1) ∨ (¬ 2 * ab r < (k : Int) ∧ ¬ r < 0 ∧ part r k = 1)) with ⟨g1, g3⟩ | ⟨g1, g2, g3⟩ | ⟨g1, g2, g3⟩
  all_goals
    rw [g3]
    have a1 : 0 ≤ ab r := by unfold ab; omega
    have a2 : ab r ≤ 15 := by unfold ab; omega
    clear g3 har hab
    generalize ab r = R at *
    first
      | (have hb : (!decide (r < 0) == decide ((k : Int) < 0)) = true := by (rw [decide_eq_true g2, decide_eq_false k3]; rfl))
      | (have hb : (!decide (r < 0) == decide ((k : Int) < 0)) = false := by (rw [decide_eq_false g2, decide_eq_false k3]; rfl))
      | skip
    go_enter Tryz.func66, Tryz.ntmps66
    go_wp2
    go_region
    go_wp2_with (go_at_call 69; first | (refine (HS.out _).mono ?_; rintro e w' ⟨rfl, rfl⟩) | (refine (HK.out _).mono ?_; rintro e w' ⟨rfl, rfl⟩))
    go_ret
    exact ⟨rfl, Dr.rfl.drew⟩
set_option maxHeartbeats 1000000 in
theorem scale_part (r : Int) (k : Nat) (hk : 0 < k) (hk2 : k ≤ 15) (h1 : -(k : Int) < r) (h2 : r < (k : Int)) (w : World) :
    Calls Tryz.prog 57 #[.int .i64 r, .int .i64 1, .int .i64 k] w fun e w' => e = .returned (.tuple #[.int .i64 (part r k), .int .i64 0]) ∧ Dr w w' := by
  have HR := hideIt (fun W => rounded_part r k hk hk2 h1 h2 W)
  have hp : -1 ≤ part r k ∧ part r k ≤ 1 := by unfold part; split <;> split <;> omega
  generalize part r k = P at *
  have C1 := hideIt (fun W => clamp_in (a := r) (by omega) (by omega) W)
  have C2 := hideIt (fun W => clamp_in (a := 1) (by omega) (by omega) W)
  have C3 := hideIt (fun W => clamp_in (a := (k : Int)) (by omega) (by omega) W)
  have C4 := hideIt (fun W => clamp_in (a := P) (by omega) (by omega) W)
  have k1 : (k : Int) ≤ 15 := by omega
  have k2 : ¬ (k : Int) = 0 := by omega
  have kb : ((k : Int) == 0) = false := by simpa using k2
  clear hp
  go_enter Tryz.func57, Tryz.ntmps57
  go_wp2_with fail
  refine (C1.out _).mono ?_
  rintro e w' ⟨rfl, rfl⟩
  go_wp2_with fail
  refine (C2.out _).mono ?_
  rintro e w' ⟨rfl, rfl⟩
  go_wp2_with fail
  refine (C3.out _).mono ?_
  rintro e w' ⟨rfl, rfl⟩
  go_wp2_with fail
  refine (HR.out _).mono ?_
  rintro e w1 ⟨rfl, d1⟩
  have D1 := hideIt d1
  clear d1
  go_wp2_with fail
  refine (C4.out _).mono ?_
  rintro e w' ⟨rfl, rfl⟩
  go_wp2
  go_ret2
  exact ⟨rfl, D1.out⟩
end Go.Proofs.YtgapnimicaopcaaGreat.L10
