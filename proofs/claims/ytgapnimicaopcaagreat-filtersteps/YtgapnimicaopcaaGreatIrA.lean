/-
  Clamp, size, rounded, Mul of package fixed; the document's Clamp; draws alone.
-/
import Derived.Test.YtgapnimicaopcaaGreatIrP
import Derived.Test.YtgapnimicaopcaaGreatBlk
namespace Go.Proofs.YtgapnimicaopcaaGreat.L11
open Go.RowKit
set_option maxRecDepth 8000
theorem clamp_any (a : Int) (w : World) : Calls Tryz.prog 65 #[.int .i64 a] w fun e w' => e = .returned (.int .i64 (clampZ a)) ∧ w' = w := by
  rcases (by unfold clampZ; omega : (a < -2147483647 ∧ clampZ a = -2147483647) ∨ (¬ a < -2147483647 ∧ 2147483647 < a ∧ clampZ a = 2147483647) ∨ (¬ a < -2147483647 ∧ ¬ 2147483647 < a ∧ clampZ a = a)) with ⟨h1, hc⟩ | ⟨h1, h2, hc⟩ | ⟨h1, h2, hc⟩
  all_goals
    rw [hc]
    clear hc
    go_enter Tryz.func65, Tryz.ntmps65
    go_wp2
    go_ret
    exact ⟨rfl, rfl⟩
theorem refClamp_any (a : Int) (w : World) : Calls Tryz.prog 44 #[.int .i64 a] w fun e w' => e = .returned (.int .i64 (clampZ a)) ∧ w' = w := by
  rcases (by unfold clampZ; omega : (a < -2147483647 ∧ clampZ a = -2147483647) ∨ (¬ a < -2147483647 ∧ 2147483647 < a ∧ clampZ a = 2147483647) ∨ (¬ a < -2147483647 ∧ ¬ 2147483647 < a ∧ clampZ a = a)) with ⟨h1, hc⟩ | ⟨h1, h2, hc⟩ | ⟨h1, h2, hc⟩
  all_goals
    rw [hc]
    clear hc
    go_enter Tryz.func44, Tryz.ntmps44
    go_wp2
    go_ret
    exact ⟨rfl, rfl⟩
theorem clamp_in {a : Int} (h1 : -2147483647 ≤ a) (h2 : a ≤ 2147483647) (w : World) : Calls Tryz.prog 65 #[.int .i64 a] w fun e w' => e = .returned (.int .i64 a) ∧ w' = w := by
  have h := clamp_any a w
  rw [show clampZ a = a by unfold clampZ; omega] at h
  exact h
theorem size_any (a : Int) (w : World) (h1 : -1000 ≤ a) (h2 : a ≤ 1000) : Calls Tryz.prog 69 #[.int .i64 a] w fun e w' => e = .returned (.int .i64 (ab a)) ∧ w' = w := by
  go_enter Tryz.func69, Tryz.ntmps69
  go_wp2
  all_goals go_ret
  all_goals exact ⟨ret_int (by unfold ab; omega), rfl⟩
/-- Draws alone. -/
def Dr (w w' : World) : Prop := ∃ m, w' = w.drewN m
theorem Dr.rfl {w : World} : Dr w w := ⟨0, Eq.refl _⟩
theorem Dr.drew {w w' : World} (h : Dr w w') : Dr w w'.drew := by
  obtain ⟨m, e⟩ := h
  subst e
  exact ⟨m + 1, Eq.refl _⟩
theorem Dr.after {w w' : World} (h : Dr w w') : After w w' := by
  obtain ⟨m, e⟩ := h
  subst e
  exact After.rfl.draws m
set_option maxHeartbeats 1000000 in
theorem rounded_k (s : Int) (h1 : -1000000000 ≤ s) (h2 : s ≤ 1000000000) (w : World) :
    Calls Tryz.prog 66 #[.int .i64 s, .int .i64 1000] w fun e w' => e = .returned (.int .i64 (near s 1000)) ∧ Dr w w' := by
  have hg := near_go s (k := 1000) (by omega)
  have e0 : ((1000 : Nat) : Int) = 1000 := rfl
  rw [e0] at hg
  have r1 := Int.lt_tmod_of_pos s (show (0 : Int) < 1000 by omega)
  have r2 := Int.tmod_lt_of_pos s (show (0 : Int) < 1000 by omega)
  have hq := Int.mul_tdiv_add_tmod s 1000
  have hs : (s < 0 ∧ s.tmod 1000 ≤ 0) ∨ (¬ s < 0 ∧ 0 ≤ s.tmod 1000) := by
    by_cases h : 0 ≤ s
    · have := Int.tmod_nonneg 1000 h
      omega
    · have h3 := Int.tmod_nonneg 1000 (show 0 ≤ -s by omega)
      rw [Int.neg_tmod] at h3
      omega
  rw [← hg]
  generalize hQ : s.tdiv 1000 = Q at *
  generalize hR : s.tmod 1000 = R at *
  have hab : ab (1000 : Int) = 1000 := by decide
  have HS := hideIt (fun W => size_any R W (by omega) (by omega))
  have HK := hideIt (fun W => size_any 1000 W (by omega) (by omega))
  rw [hab] at HK
  have hb0 : decide ((1000 : Int) < 0) = false := rfl
  rcases (by unfold part ab; split <;> split <;> omega : (2 * ab R < 1000 ∧ part R 1000 = 0) ∨ (¬ 2 * ab R < 1000 ∧ s < 0 ∧ part R 1000 = -1) ∨ (¬ 2 * ab R < 1000 ∧ ¬ s < 0 ∧ part R 1000 = 1)) with ⟨g1, g3⟩ | ⟨g1, g2, g3⟩ | ⟨g1, g2, g3⟩
  all_goals
    rw [g3]
    have a1 : 0 ≤ ab R := by unfold ab; omega
    have a2 : ab R ≤ 1000 := by unfold ab; omega
    have q1 : -1000000 ≤ Q := by omega
    have q2 : Q ≤ 1000000 := by omega
    clear g3 hab hg hs hq r1 r2 e0
    generalize ab R = R' at *
    go_enter Tryz.func66, Tryz.ntmps66
    go_wp2
    go_region
    go_wp2_with (go_at_call 69; first | (refine (HS.out _).mono ?_; rintro e w' ⟨rfl, rfl⟩) | (refine (HK.out _).mono ?_; rintro e w' ⟨rfl, rfl⟩))
    go_ret
    exact ⟨ret_int (by omega), Dr.rfl.drew⟩
set_option maxHeartbeats 1000000 in
theorem mul_any (a b : Int) (h1 : 1 ≤ a) (h2 : a ≤ 1000) (h3 : -1000 < b) (h4 : b < 1000) (w : World) :
    Calls Tryz.prog 123 #[.int .i64 a, .int .i64 b] w fun e w' => e = .returned (.int .i64 (near (a * b) 1000)) ∧ Dr w w' := by
  have hm := mul_in (p := a.toNat) (d := b) (m := 1000) (by omega) (by omega) (by omega)
  rw [show ((a.toNat : Nat) : Int) = a by omega] at hm
  have hn := near_between (s := a * b) (lo := -1000000) (hi := 1000000) (k := 1000) (by omega) (by omega) (by omega)
  have C1 := hideIt (fun W => clamp_in (a := a) (by omega) (by omega) W)
  have C2 := hideIt (fun W => clamp_in (a := b) (by omega) (by omega) W)
  generalize hP : a * b = P at *
  have HR := hideIt (fun W => rounded_k P (by omega) (by omega) W)
  generalize near P 1000 = M at *
  have C3 := hideIt (fun W => clamp_in (a := M) (by omega) (by omega) W)
  clear hn
  go_enter Tryz.func123, Tryz.ntmps123
  go_wp2_with fail
  refine (C1.out _).mono ?_
  rintro e w' ⟨rfl, rfl⟩
  go_wp2_with fail
  refine (C2.out _).mono ?_
  rintro e w' ⟨rfl, rfl⟩
  go_wp2_with fail
  refine (HR.out _).mono ?_
  rintro e w1 ⟨rfl, d1⟩
  have D1 := hideIt d1
  clear d1
  go_wp2_with fail
  refine (C3.out _).mono ?_
  rintro e w' ⟨rfl, rfl⟩
  go_wp2
  go_ret
  exact ⟨rfl, D1.out⟩
end Go.Proofs.YtgapnimicaopcaaGreat.L11
