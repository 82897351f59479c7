/-
  Clamp, size, rounded, Scale of package fixed, as package beats calls them.
-/
import Derived.Test.YtgapnimicaopcaaGreatBtP
import Derived.Test.YtgapnimicaopcaaGreatBlk
import Derived.Lib.MinMax
namespace Go.Proofs.YtgapnimicaopcaaGreat.L12
open Go.RowKit
set_option maxRecDepth 8000
theorem clamp_in {a : Int} (h1 : -2147483647 ≤ a) (h2 : a ≤ 2147483647) (w : World) : Calls Tryz.prog 65 #[.int .i64 a] w fun e w' => e = .returned (.int .i64 a) ∧ w' = w := by
  have e1 : max a (-2147483647) = a := by omega
  have e2 : min a 2147483647 = a := by omega
  go_enter Tryz.func65, Tryz.ntmps65
  go_wp2
  go_ret
  exact ⟨ret_int (by omega), rfl⟩
/-- How far from 0. -/
def ab (a : Int) : Int := max a (-a)
theorem size_any (a : Int) (w : World) (h1 : -2147483647 ≤ a) (h2 : a ≤ 2147483647) : Calls Tryz.prog 69 #[.int .i64 a] w fun e w' => e = .returned (.int .i64 (ab a)) ∧ w' = w := by
  go_enter Tryz.func69, Tryz.ntmps69
  go_wp2
  all_goals go_ret
  all_goals exact ⟨ret_int (by unfold ab; omega), rfl⟩
/-- Draws alone. -/
def Dr (w w' : World) : Prop := ∃ m, w' = w.drewN m
theorem Dr.rfl {w : World} : Dr w w := ⟨0, Eq.refl _⟩
theorem Dr.drew {w w' : World} (h : Dr w w') : Dr w w'.drew := by
  obtain ⟨m, e⟩ := h
  subst e
  exact ⟨m + 1, Eq.refl _⟩
theorem Dr.after {w w' : World} (h : Dr w w') : After w w' := by
  obtain ⟨m, e⟩ := h
  subst e
  exact After.rfl.draws m
theorem Dr.trans {w w' w2 : World} (h : Dr w w') (k : Dr w' w2) : Dr w w2 := by
  obtain ⟨m, e⟩ := h
  obtain ⟨m2, e2⟩ := k
  subst e
  subst e2
  exact ⟨_, World.drewN_drewN _ _ _⟩
set_option maxHeartbeats 1000000 in
theorem rounded_any (s : Int) (k : Nat) (h1 : -4200000 ≤ s) (h2 : s ≤ 4200000) (hk : 0 < k) (hk2 : k ≤ 2147483647) (w : World) :
    Calls Tryz.prog 66 #[.int .i64 s, .int .i64 k] w fun e w' => e = .returned (.int .i64 (near s k)) ∧ Dr w w' := by
  have hg := near_go s hk
  have r1 := Int.lt_tmod_of_pos s (show (0 : Int) < (k : Int) by omega)
  have r2 := Int.tmod_lt_of_pos s (show (0 : Int) < (k : Int) by omega)
  have hq : -4200000 ≤ s.tdiv k ∧ s.tdiv k ≤ 4200000 := by
    have a1 := Int.natAbs_tdiv_le_natAbs s k
    omega
  have hs : (s < 0 ∧ s.tmod k ≤ 0) ∨ (¬ s < 0 ∧ 0 ≤ s.tmod k) := by
    by_cases h : 0 ≤ s
    · have := Int.tmod_nonneg (k : Int) h
      omega
    · have h3 := Int.tmod_nonneg (k : Int) (show 0 ≤ -s by omega)
      rw [Int.neg_tmod] at h3
      omega
  rw [← hg]
  generalize hQ : s.tdiv k = Q at *
  generalize hR : s.tmod k = R at *
  have hab : ab (k : Int) = (k : Int) := by unfold ab; omega
  have HS := hideIt (fun W => size_any R W (by omega) (by omega))
  have HK := hideIt (fun W => size_any (k : Int) W (by omega) (by omega))
  rw [hab] at HK
  have k1 : (k : Int) ≤ 2147483647 := by omega
  have k2 : ¬ (k : Int) = 0 := by omega
  have k3 : ¬ (k : Int) < 0 := by omega
  rcases (by unfold part ab; split <;> split <;> omega : (2 * ab R < (k : Int) ∧ part R k = 0) ∨ (¬ 2 * ab R < (k : Int) ∧ s < 0 ∧ part R k = -1) ∨ (¬ 2 * ab R < (k : Int) ∧ ¬ s < 0 ∧ part R k = 1)) with ⟨g1, g3⟩ | ⟨g1, g2, g3⟩ | ⟨g1, g2, g3⟩
  all_goals
    rw [g3]
    have a1 : 0 ≤ ab R := by unfold ab; omega
    have a2 : ab R ≤ 2147483647 := by unfold ab; omega
    obtain ⟨q1, q2⟩ := hq
    clear g3 hab hg hs r1 r2
    generalize ab R = R' at *
    first
      | (have hb : (!decide (s < 0) == decide ((k : Int) < 0)) = true := by (rw [decide_eq_true g2, decide_eq_false k3]; rfl))
      | (have hb : (!decide (s < 0) == decide ((k : Int) < 0)) = false := by (rw [decide_eq_false g2, decide_eq_false k3]; rfl))
      | skip
    go_enter Tryz.func66, Tryz.ntmps66
    go_wp2
    go_region
    go_wp2_with (go_at_call 69; first | (refine (HS.out _).mono ?_; rintro e w' ⟨rfl, rfl⟩) | (refine (HK.out _).mono ?_; rintro e w' ⟨rfl, rfl⟩))
    go_ret
    exact ⟨ret_int (by omega), Dr.rfl.drew⟩
set_option maxHeartbeats 1000000 in
theorem scale_any (g d : Nat) (hg : g ≤ 7) (hd : 0 < d) (hd2 : d ≤ 2147483647) (w : World) :
    Calls Tryz.prog 57 #[.int .i64 600000, .int .i64 g, .int .i64 d] w fun e w' => e = .returned (.tuple #[.int .i64 (rd g d), .int .i64 0]) ∧ Dr w w' := by
  have hn := rd_in (g := (g : Int)) (d := d) (by omega) (by omega) hd
  have hr := fun W => rounded_any (600000 * (g : Int)) d (by omega) (by omega) hd hd2 W
  rw [rd_near _ _ (by omega)] at hr
  have HR := hideIt hr
  clear hr
  generalize rd (g : Int) (d : Int) = P at *
  have C1 := hideIt (fun W => clamp_in (a := 600000) (by omega) (by omega) W)
  have C2 := hideIt (fun W => clamp_in (a := (g : Int)) (by omega) (by omega) W)
  have C3 := hideIt (fun W => clamp_in (a := (d : Int)) (by omega) (by omega) W)
  have C4 := hideIt (fun W => clamp_in (a := P) (by omega) (by omega) W)
  have k1 : (g : Int) ≤ 7 := by omega
  have k2 : ¬ (d : Int) = 0 := by omega
  have kb : ((d : Int) == 0) = false := by simpa using k2
  clear hn
  go_enter Tryz.func57, Tryz.ntmps57
  go_wp2_with fail
  refine (C1.out _).mono ?_
  rintro e w' ⟨rfl, rfl⟩
  go_wp2_with fail
  refine (C2.out _).mono ?_
  rintro e w' ⟨rfl, rfl⟩
  go_wp2_with fail
  refine (C3.out _).mono ?_
  rintro e w' ⟨rfl, rfl⟩
  go_wp2_with fail
  refine (HR.out _).mono ?_
  rintro e w1 ⟨rfl, d1⟩
  have D1 := hideIt d1
  clear d1
  go_wp2_with fail
  refine (C4.out _).mono ?_
  rintro e w' ⟨rfl, rfl⟩
  go_wp2
  go_ret2
  exact ⟨rfl, D1.out⟩
end Go.Proofs.YtgapnimicaopcaaGreat.L12
