/-
  The document's alarm: which specs and states may be; Again, New.
-/
import Derived.Test.YthggkpmhcdmalaaAlRa
namespace Go.Proofs.Ythggkpmhcdmalaa
open Go.RowKit
set_option maxRecDepth 8000
set_option maxHeartbeats 4000000 in
theorem refState_far (w : World) (P E p2 p3 p4 : Int) (L : Bool) (p1 : Int) (_hm1 : 1 ≤ P) (_hm2 : P ≤ 3) (_hm3 : 0 ≤ E) (_hm4 : E ≤ 10000) (_hfar : p4 < 0 ∨ 6000 < p4 ∨ p1 < 0 ∨ 3 < p1) : Calls Try.prog 27 #[(⟨P, L, E⟩ : Sp).v, (⟨p1, p2, p3, p4⟩ : As).v] w fun e w' => e = .returned (.bool (decide (Sp.Stands ⟨P, L, E⟩ ⟨p1, p2, p3, p4⟩))) ∧ After w w' := by
  have HG := hideIt (fun V => refGrows_any V ⟨P, L, E⟩ p2)
  have HB := hideIt (fun V h => box_two w ⟨P, L, E⟩ ⟨p1, p2, p3, p4⟩ V h)
  have HA := hideIt (boxed_after w ⟨P, L, E⟩ ⟨p1, p2, p3, p4⟩)
  unfold boxed Sp.cs As.cs at HA HB
  unfold Sp.v at HG
  unfold Sp.v As.v
  dsimp only at *
  generalize hSD : decide (Sp.Stands ⟨P, L, E⟩ ⟨p1, p2, p3, p4⟩) = SD
  generalize hGD : decide (Sp.Grows ⟨P, L, E⟩ p2) = GD at HG
  by_cases hA0 : p4 < 0
  · skip
    obtain rfl : SD = false := by
      rw [← hSD]
      simp only [decide_eq_false_iff_not]
      unfold Sp.Stands Sp.Counts Sp.Lasts Sp.Grows
      clear HG HA HB hGD
      first | omega | (simp; omega) | simp
    clear hSD
    clear HG hGD _hm1 _hm2 _hm3 _hm4
    go_enter Try.func27, Try.ntmps27
    go_wp2
    go_ret
    exact ⟨ret_bool (by first | rfl | (rw [decide_eq_false_iff_not]; omega) | (rw [decide_eq_true_eq]; omega)), HA.out⟩
  · skip
    by_cases hB0 : 6000 < p4
    · skip
      obtain rfl : SD = false := by
        rw [← hSD]
        simp only [decide_eq_false_iff_not]
        unfold Sp.Stands Sp.Counts Sp.Lasts Sp.Grows
        clear HG HA HB hGD
        first | omega | (simp; omega) | simp
      clear hSD
      clear HG hGD _hm1 _hm2 _hm3 _hm4
      go_enter Try.func27, Try.ntmps27
      go_wp2
      go_ret
      exact ⟨ret_bool (by first | rfl | (rw [decide_eq_false_iff_not]; omega) | (rw [decide_eq_true_eq]; omega)), HA.out⟩
    · skip
      by_cases hC0 : p1 < 0
      · skip
        obtain rfl : SD = false := by
          rw [← hSD]
          simp only [decide_eq_false_iff_not]
          unfold Sp.Stands Sp.Counts Sp.Lasts Sp.Grows
          clear HG HA HB hGD
          first | omega | (simp; omega) | simp
        clear hSD
        clear HG hGD _hm1 _hm2 _hm3 _hm4
        go_enter Try.func27, Try.ntmps27
        go_wp2
        go_ret
        exact ⟨ret_bool (by first | rfl | (rw [decide_eq_false_iff_not]; omega) | (rw [decide_eq_true_eq]; omega)), HA.out⟩
      · skip
        obtain rfl : SD = false := by
          rw [← hSD]
          simp only [decide_eq_false_iff_not]
          unfold Sp.Stands Sp.Counts Sp.Lasts Sp.Grows
          clear HG HA HB hGD
          first | omega | (simp; omega) | simp
        clear hSD
        have hD1 : 3 < p1 := by omega
        clear HG hGD _hm1 _hm2 _hm3 _hm4
        go_enter Try.func27, Try.ntmps27
        go_wp2
        go_ret
        exact ⟨ret_bool (by first | rfl | (rw [decide_eq_false_iff_not]; omega) | (rw [decide_eq_true_eq]; omega)), HA.out⟩
set_option maxHeartbeats 4000000 in
theorem refState_q (w : World) (P E p2 p3 p4 : Int) (L : Bool) (_hm1 : 1 ≤ P) (_hm2 : P ≤ 3) (_hm3 : 0 ≤ E) (_hm4 : E ≤ 10000) (_hA0 : ¬ p4 < 0) (_hB0 : ¬ 6000 < p4) : Calls Try.prog 27 #[(⟨P, L, E⟩ : Sp).v, (⟨0, p2, p3, p4⟩ : As).v] w fun e w' => e = .returned (.bool (decide (Sp.Stands ⟨P, L, E⟩ ⟨0, p2, p3, p4⟩))) ∧ After w w' := by
  have HG := hideIt (fun V => refGrows_any V ⟨P, L, E⟩ p2)
  have HB := hideIt (fun V h => box_two w ⟨P, L, E⟩ ⟨0, p2, p3, p4⟩ V h)
  have HA := hideIt (boxed_after w ⟨P, L, E⟩ ⟨0, p2, p3, p4⟩)
  unfold boxed Sp.cs As.cs at HA HB
  unfold Sp.v at HG
  unfold Sp.v As.v
  dsimp only at *
  generalize hSD : decide (Sp.Stands ⟨P, L, E⟩ ⟨0, p2, p3, p4⟩) = SD
  generalize hGD : decide (Sp.Grows ⟨P, L, E⟩ p2) = GD at HG
  by_cases hzp2 : p2 = 0
  · skip
    by_cases hzp3 : p3 = 0
    · skip
      obtain rfl : SD = true := by
        rw [← hSD]
        simp only [decide_eq_true_eq]
        unfold Sp.Stands Sp.Counts Sp.Lasts Sp.Grows
        clear HG HA HB hGD
        first | omega | (simp; omega) | simp
      clear hSD
      have zp2 : (p2 == 0) = true := by simpa using hzp2
      have zp3 : (p3 == 0) = true := by simpa using hzp3
      clear hzp2 hzp3
      clear HG hGD _hm1 _hm2 _hm3 _hm4
      go_enter Try.func27, Try.ntmps27
      go_wp2
      go_ret
      exact ⟨ret_bool (by first | rfl | (rw [decide_eq_false_iff_not]; omega) | (rw [decide_eq_true_eq]; omega)), HA.out⟩
    · skip
      obtain rfl : SD = false := by
        rw [← hSD]
        simp only [decide_eq_false_iff_not]
        unfold Sp.Stands Sp.Counts Sp.Lasts Sp.Grows
        clear HG HA HB hGD
        first | omega | (simp; omega) | simp
      clear hSD
      have zp2 : (p2 == 0) = true := by simpa using hzp2
      have zp3 : (p3 == 0) = false := by simpa using hzp3
      clear hzp2 hzp3
      clear HG hGD _hm1 _hm2 _hm3 _hm4
      go_enter Try.func27, Try.ntmps27
      go_wp2
      go_ret
      exact ⟨ret_bool (by first | rfl | (rw [decide_eq_false_iff_not]; omega) | (rw [decide_eq_true_eq]; omega)), HA.out⟩
  · skip
    obtain rfl : SD = false := by
      rw [← hSD]
      simp only [decide_eq_false_iff_not]
      unfold Sp.Stands Sp.Counts Sp.Lasts Sp.Grows
      clear HG HA HB hGD
      first | omega | (simp; omega) | simp
    clear hSD
    have zp2 : (p2 == 0) = false := by simpa using hzp2
    clear hzp2
    clear HG hGD _hm1 _hm2 _hm3 _hm4
    go_enter Try.func27, Try.ntmps27
    go_wp2
    go_ret
    exact ⟨ret_bool (by first | rfl | (rw [decide_eq_false_iff_not]; omega) | (rw [decide_eq_true_eq]; omega)), HA.out⟩
set_option maxHeartbeats 4000000 in
theorem refState_r (w : World) (P E p2 p3 p4 : Int) (L : Bool) (_hm1 : 1 ≤ P) (_hm2 : P ≤ 3) (_hm3 : 0 ≤ E) (_hm4 : E ≤ 10000) (_hA0 : ¬ p4 < 0) (_hB0 : ¬ 6000 < p4) : Calls Try.prog 27 #[(⟨P, L, E⟩ : Sp).v, (⟨1, p2, p3, p4⟩ : As).v] w fun e w' => e = .returned (.bool (decide (Sp.Stands ⟨P, L, E⟩ ⟨1, p2, p3, p4⟩))) ∧ After w w' := by
  have HG := hideIt (fun V => refGrows_any V ⟨P, L, E⟩ p2)
  have HB := hideIt (fun V h => box_two w ⟨P, L, E⟩ ⟨1, p2, p3, p4⟩ V h)
  have HA := hideIt (boxed_after w ⟨P, L, E⟩ ⟨1, p2, p3, p4⟩)
  unfold boxed Sp.cs As.cs at HA HB
  unfold Sp.v at HG
  unfold Sp.v As.v
  dsimp only at *
  generalize hSD : decide (Sp.Stands ⟨P, L, E⟩ ⟨1, p2, p3, p4⟩) = SD
  generalize hGD : decide (Sp.Grows ⟨P, L, E⟩ p2) = GD at HG
  by_cases hlt : p2 < P
  · skip
    obtain rfl : SD = false := by
      rw [← hSD]
      simp only [decide_eq_false_iff_not]
      unfold Sp.Stands Sp.Counts Sp.Lasts Sp.Grows
      clear HG HA HB hGD
      first | omega | (simp; omega) | simp
    clear hSD
    clear HG hGD _hm1 _hm2 _hm3 _hm4
    go_enter Try.func27, Try.ntmps27
    go_wp2
    go_ret
    exact ⟨ret_bool (by first | rfl | (rw [decide_eq_false_iff_not]; omega) | (rw [decide_eq_true_eq]; omega)), HA.out⟩
  · skip
    by_cases hgt : 3 < p2
    · skip
      obtain rfl : SD = false := by
        rw [← hSD]
        simp only [decide_eq_false_iff_not]
        unfold Sp.Stands Sp.Counts Sp.Lasts Sp.Grows
        clear HG HA HB hGD
        first | omega | (simp; omega) | simp
      clear hSD
      clear HG hGD _hm1 _hm2 _hm3 _hm4
      go_enter Try.func27, Try.ntmps27
      go_wp2
      go_ret
      exact ⟨ret_bool (by first | rfl | (rw [decide_eq_false_iff_not]; omega) | (rw [decide_eq_true_eq]; omega)), HA.out⟩
    · skip
      by_cases hzE : E = 0
      · skip
        by_cases hpP : p2 = P
        · skip
          by_cases hzp3 : p3 = 0
          · skip
            obtain rfl : SD = true := by
              rw [← hSD]
              simp only [decide_eq_true_eq]
              unfold Sp.Stands Sp.Counts Sp.Lasts Sp.Grows
              clear HG HA HB hGD
              first | omega | (simp; omega) | simp
            clear hSD
            obtain rfl : GD = false := by rw [← hGD]; simp only [decide_eq_false_iff_not]; unfold Sp.Grows; dsimp only; omega
            have zE : (E == 0) = true := by simpa using hzE
            have npP : (p2 != P) = false := by simpa using hpP
            have zp3 : (p3 == 0) = true := by simpa using hzp3
            clear hzE hpP hzp3
            clear hGD _hm1 _hm2 _hm3 _hm4
            go_enter Try.func27, Try.ntmps27
            go_wp2_with fail
            refine (HG.out _).mono ?_
            rintro e w1 ⟨rfl, a1⟩
            obtain ⟨c0, c1, c2, c3, c4, c5, c6⟩ := HB.out _ a1
            have A1 := hideIt a1
            clear a1
            go_wp2
            go_ret
            exact ⟨ret_bool (by first | rfl | (rw [decide_eq_false_iff_not]; omega) | (rw [decide_eq_true_eq]; omega)), HA.out.trans A1.out⟩
          · skip
            obtain rfl : SD = false := by
              rw [← hSD]
              simp only [decide_eq_false_iff_not]
              unfold Sp.Stands Sp.Counts Sp.Lasts Sp.Grows
              clear HG HA HB hGD
              first | omega | (simp; omega) | simp
            clear hSD
            obtain rfl : GD = false := by rw [← hGD]; simp only [decide_eq_false_iff_not]; unfold Sp.Grows; dsimp only; omega
            have zE : (E == 0) = true := by simpa using hzE
            have npP : (p2 != P) = false := by simpa using hpP
            have zp3 : (p3 == 0) = false := by simpa using hzp3
            clear hzE hpP hzp3
            clear hGD _hm1 _hm2 _hm3 _hm4
            go_enter Try.func27, Try.ntmps27
            go_wp2_with fail
            refine (HG.out _).mono ?_
            rintro e w1 ⟨rfl, a1⟩
            obtain ⟨c0, c1, c2, c3, c4, c5, c6⟩ := HB.out _ a1
            have A1 := hideIt a1
            clear a1
            go_wp2
            go_ret
            exact ⟨ret_bool (by first | rfl | (rw [decide_eq_false_iff_not]; omega) | (rw [decide_eq_true_eq]; omega)), HA.out.trans A1.out⟩
        · skip
          obtain rfl : SD = false := by
            rw [← hSD]
            simp only [decide_eq_false_iff_not]
            unfold Sp.Stands Sp.Counts Sp.Lasts Sp.Grows
            clear HG HA HB hGD
            first | omega | (simp; omega) | simp
          clear hSD
          have zE : (E == 0) = true := by simpa using hzE
          have npP : (p2 != P) = true := by simpa using hpP
          clear hzE hpP
          clear HG hGD _hm1 _hm2 _hm3 _hm4
          go_enter Try.func27, Try.ntmps27
          go_wp2
          go_ret
          exact ⟨ret_bool (by first | rfl | (rw [decide_eq_false_iff_not]; omega) | (rw [decide_eq_true_eq]; omega)), HA.out⟩
      · skip
        by_cases hg3 : p2 < 3
        · skip
          by_cases hn3 : p3 < 0
          · skip
            obtain rfl : SD = false := by
              rw [← hSD]
              simp only [decide_eq_false_iff_not]
              unfold Sp.Stands Sp.Counts Sp.Lasts Sp.Grows
              clear HG HA HB hGD
              first | omega | (simp; omega) | simp
            clear hSD
            obtain rfl : GD = true := by rw [← hGD]; simp only [decide_eq_true_eq]; unfold Sp.Grows; dsimp only; omega
            have zE : (E == 0) = false := by simpa using hzE
            clear hzE
            clear hGD _hm1 _hm2 _hm3 _hm4
            go_enter Try.func27, Try.ntmps27
            go_wp2_with fail
            refine (HG.out _).mono ?_
            rintro e w1 ⟨rfl, a1⟩
            obtain ⟨c0, c1, c2, c3, c4, c5, c6⟩ := HB.out _ a1
            have A1 := hideIt a1
            clear a1
            go_wp2
            go_ret
            exact ⟨ret_bool (by first | rfl | (rw [decide_eq_false_iff_not]; omega) | (rw [decide_eq_true_eq]; omega)), HA.out.trans A1.out⟩
          · skip
            by_cases hl3 : p3 < E
            · skip
              obtain rfl : SD = true := by
                rw [← hSD]
                simp only [decide_eq_true_eq]
                unfold Sp.Stands Sp.Counts Sp.Lasts Sp.Grows
                clear HG HA HB hGD
                first | omega | (simp; omega) | simp
              clear hSD
              obtain rfl : GD = true := by rw [← hGD]; simp only [decide_eq_true_eq]; unfold Sp.Grows; dsimp only; omega
              have zE : (E == 0) = false := by simpa using hzE
              have hn3' : 0 ≤ p3 := by omega
              clear hzE
              clear hGD _hm1 _hm2 _hm3 _hm4
              go_enter Try.func27, Try.ntmps27
              go_wp2_with fail
              refine (HG.out _).mono ?_
              rintro e w1 ⟨rfl, a1⟩
              obtain ⟨c0, c1, c2, c3, c4, c5, c6⟩ := HB.out _ a1
              have A1 := hideIt a1
              clear a1
              go_wp2
              go_ret
              exact ⟨ret_bool (by first | rfl | (rw [decide_eq_false_iff_not]; omega) | (rw [decide_eq_true_eq]; omega)), HA.out.trans A1.out⟩
            · skip
              obtain rfl : SD = false := by
                rw [← hSD]
                simp only [decide_eq_false_iff_not]
                unfold Sp.Stands Sp.Counts Sp.Lasts Sp.Grows
                clear HG HA HB hGD
                first | omega | (simp; omega) | simp
              clear hSD
              obtain rfl : GD = true := by rw [← hGD]; simp only [decide_eq_true_eq]; unfold Sp.Grows; dsimp only; omega
              have zE : (E == 0) = false := by simpa using hzE
              have hn3' : 0 ≤ p3 := by omega
              clear hzE
              clear hGD _hm1 _hm2 _hm3 _hm4
              go_enter Try.func27, Try.ntmps27
              go_wp2_with fail
              refine (HG.out _).mono ?_
              rintro e w1 ⟨rfl, a1⟩
              obtain ⟨c0, c1, c2, c3, c4, c5, c6⟩ := HB.out _ a1
              have A1 := hideIt a1
              clear a1
              go_wp2
              go_ret
              exact ⟨ret_bool (by first | rfl | (rw [decide_eq_false_iff_not]; omega) | (rw [decide_eq_true_eq]; omega)), HA.out.trans A1.out⟩
        · skip
          by_cases hzp3 : p3 = 0
          · skip
            obtain rfl : SD = true := by
              rw [← hSD]
              simp only [decide_eq_true_eq]
              unfold Sp.Stands Sp.Counts Sp.Lasts Sp.Grows
              clear HG HA HB hGD
              first | omega | (simp; omega) | simp
            clear hSD
            obtain rfl : GD = false := by rw [← hGD]; simp only [decide_eq_false_iff_not]; unfold Sp.Grows; dsimp only; omega
            have zE : (E == 0) = false := by simpa using hzE
            have zp3 : (p3 == 0) = true := by simpa using hzp3
            clear hzE hzp3
            clear hGD _hm1 _hm2 _hm3 _hm4
            go_enter Try.func27, Try.ntmps27
            go_wp2_with fail
            refine (HG.out _).mono ?_
            rintro e w1 ⟨rfl, a1⟩
            obtain ⟨c0, c1, c2, c3, c4, c5, c6⟩ := HB.out _ a1
            have A1 := hideIt a1
            clear a1
            go_wp2
            go_ret
            exact ⟨ret_bool (by first | rfl | (rw [decide_eq_false_iff_not]; omega) | (rw [decide_eq_true_eq]; omega)), HA.out.trans A1.out⟩
          · skip
            obtain rfl : SD = false := by
              rw [← hSD]
              simp only [decide_eq_false_iff_not]
              unfold Sp.Stands Sp.Counts Sp.Lasts Sp.Grows
              clear HG HA HB hGD
              first | omega | (simp; omega) | simp
            clear hSD
            obtain rfl : GD = false := by rw [← hGD]; simp only [decide_eq_false_iff_not]; unfold Sp.Grows; dsimp only; omega
            have zE : (E == 0) = false := by simpa using hzE
            have zp3 : (p3 == 0) = false := by simpa using hzp3
            clear hzE hzp3
            clear hGD _hm1 _hm2 _hm3 _hm4
            go_enter Try.func27, Try.ntmps27
            go_wp2_with fail
            refine (HG.out _).mono ?_
            rintro e w1 ⟨rfl, a1⟩
            obtain ⟨c0, c1, c2, c3, c4, c5, c6⟩ := HB.out _ a1
            have A1 := hideIt a1
            clear a1
            go_wp2
            go_ret
            exact ⟨ret_bool (by first | rfl | (rw [decide_eq_false_iff_not]; omega) | (rw [decide_eq_true_eq]; omega)), HA.out.trans A1.out⟩
set_option maxHeartbeats 4000000 in
theorem refState_k (w : World) (P E p2 p3 p4 : Int) (L : Bool) (_hm1 : 1 ≤ P) (_hm2 : P ≤ 3) (_hm3 : 0 ≤ E) (_hm4 : E ≤ 10000) (_hA0 : ¬ p4 < 0) (_hB0 : ¬ 6000 < p4) : Calls Try.prog 27 #[(⟨P, L, E⟩ : Sp).v, (⟨2, p2, p3, p4⟩ : As).v] w fun e w' => e = .returned (.bool (decide (Sp.Stands ⟨P, L, E⟩ ⟨2, p2, p3, p4⟩))) ∧ After w w' := by
  have HG := hideIt (fun V => refGrows_any V ⟨P, L, E⟩ p2)
  have HB := hideIt (fun V h => box_two w ⟨P, L, E⟩ ⟨2, p2, p3, p4⟩ V h)
  have HA := hideIt (boxed_after w ⟨P, L, E⟩ ⟨2, p2, p3, p4⟩)
  unfold boxed Sp.cs As.cs at HA HB
  unfold Sp.v at HG
  unfold Sp.v As.v
  dsimp only at *
  generalize hSD : decide (Sp.Stands ⟨P, L, E⟩ ⟨2, p2, p3, p4⟩) = SD
  generalize hGD : decide (Sp.Grows ⟨P, L, E⟩ p2) = GD at HG
  by_cases hlt : p2 < P
  · skip
    obtain rfl : SD = false := by
      rw [← hSD]
      simp only [decide_eq_false_iff_not]
      unfold Sp.Stands Sp.Counts Sp.Lasts Sp.Grows
      clear HG HA HB hGD
      first | omega | (simp; omega) | simp
    clear hSD
    clear HG hGD _hm1 _hm2 _hm3 _hm4
    go_enter Try.func27, Try.ntmps27
    go_wp2
    go_ret
    exact ⟨ret_bool (by first | rfl | (rw [decide_eq_false_iff_not]; omega) | (rw [decide_eq_true_eq]; omega)), HA.out⟩
  · skip
    by_cases hgt : 3 < p2
    · skip
      obtain rfl : SD = false := by
        rw [← hSD]
        simp only [decide_eq_false_iff_not]
        unfold Sp.Stands Sp.Counts Sp.Lasts Sp.Grows
        clear HG HA HB hGD
        first | omega | (simp; omega) | simp
      clear hSD
      clear HG hGD _hm1 _hm2 _hm3 _hm4
      go_enter Try.func27, Try.ntmps27
      go_wp2
      go_ret
      exact ⟨ret_bool (by first | rfl | (rw [decide_eq_false_iff_not]; omega) | (rw [decide_eq_true_eq]; omega)), HA.out⟩
    · skip
      by_cases hzE : E = 0
      · skip
        by_cases hpP : p2 = P
        · skip
          by_cases hzp3 : p3 = 0
          · skip
            obtain rfl : SD = true := by
              rw [← hSD]
              simp only [decide_eq_true_eq]
              unfold Sp.Stands Sp.Counts Sp.Lasts Sp.Grows
              clear HG HA HB hGD
              first | omega | (simp; omega) | simp
            clear hSD
            have zE : (E == 0) = true := by simpa using hzE
            have npP : (p2 != P) = false := by simpa using hpP
            have zp3 : (p3 == 0) = true := by simpa using hzp3
            clear hzE hpP hzp3
            clear HG hGD _hm1 _hm2 _hm3 _hm4
            go_enter Try.func27, Try.ntmps27
            go_wp2
            go_ret
            exact ⟨ret_bool (by first | rfl | (rw [decide_eq_false_iff_not]; omega) | (rw [decide_eq_true_eq]; omega)), HA.out⟩
          · skip
            obtain rfl : SD = false := by
              rw [← hSD]
              simp only [decide_eq_false_iff_not]
              unfold Sp.Stands Sp.Counts Sp.Lasts Sp.Grows
              clear HG HA HB hGD
              first | omega | (simp; omega) | simp
            clear hSD
            have zE : (E == 0) = true := by simpa using hzE
            have npP : (p2 != P) = false := by simpa using hpP
            have zp3 : (p3 == 0) = false := by simpa using hzp3
            clear hzE hpP hzp3
            clear HG hGD _hm1 _hm2 _hm3 _hm4
            go_enter Try.func27, Try.ntmps27
            go_wp2
            go_ret
            exact ⟨ret_bool (by first | rfl | (rw [decide_eq_false_iff_not]; omega) | (rw [decide_eq_true_eq]; omega)), HA.out⟩
        · skip
          obtain rfl : SD = false := by
            rw [← hSD]
            simp only [decide_eq_false_iff_not]
            unfold Sp.Stands Sp.Counts Sp.Lasts Sp.Grows
            clear HG HA HB hGD
            first | omega | (simp; omega) | simp
          clear hSD
          have zE : (E == 0) = true := by simpa using hzE
          have npP : (p2 != P) = true := by simpa using hpP
          clear hzE hpP
          clear HG hGD _hm1 _hm2 _hm3 _hm4
          go_enter Try.func27, Try.ntmps27
          go_wp2
          go_ret
          exact ⟨ret_bool (by first | rfl | (rw [decide_eq_false_iff_not]; omega) | (rw [decide_eq_true_eq]; omega)), HA.out⟩
      · skip
        by_cases hzp3 : p3 = 0
        · skip
          obtain rfl : SD = true := by
            rw [← hSD]
            simp only [decide_eq_true_eq]
            unfold Sp.Stands Sp.Counts Sp.Lasts Sp.Grows
            clear HG HA HB hGD
            first | omega | (simp; omega) | simp
          clear hSD
          have zE : (E == 0) = false := by simpa using hzE
          have zp3 : (p3 == 0) = true := by simpa using hzp3
          clear hzE hzp3
          clear HG hGD _hm1 _hm2 _hm3 _hm4
          go_enter Try.func27, Try.ntmps27
          go_wp2
          go_ret
          exact ⟨ret_bool (by first | rfl | (rw [decide_eq_false_iff_not]; omega) | (rw [decide_eq_true_eq]; omega)), HA.out⟩
        · skip
          obtain rfl : SD = false := by
            rw [← hSD]
            simp only [decide_eq_false_iff_not]
            unfold Sp.Stands Sp.Counts Sp.Lasts Sp.Grows
            clear HG HA HB hGD
            first | omega | (simp; omega) | simp
          clear hSD
          have zE : (E == 0) = false := by simpa using hzE
          have zp3 : (p3 == 0) = false := by simpa using hzp3
          clear hzE hzp3
          clear HG hGD _hm1 _hm2 _hm3 _hm4
          go_enter Try.func27, Try.ntmps27
          go_wp2
          go_ret
          exact ⟨ret_bool (by first | rfl | (rw [decide_eq_false_iff_not]; omega) | (rw [decide_eq_true_eq]; omega)), HA.out⟩
set_option maxHeartbeats 4000000 in
theorem refState_n (w : World) (P E p2 p3 p4 : Int) (_hm1 : 1 ≤ P) (_hm2 : P ≤ 3) (_hm3 : 0 ≤ E) (_hm4 : E ≤ 10000) (_hA0 : ¬ p4 < 0) (_hB0 : ¬ 6000 < p4) : Calls Try.prog 27 #[(⟨P, false, E⟩ : Sp).v, (⟨3, p2, p3, p4⟩ : As).v] w fun e w' => e = .returned (.bool (decide (Sp.Stands ⟨P, false, E⟩ ⟨3, p2, p3, p4⟩))) ∧ After w w' := by
  have HG := hideIt (fun V => refGrows_any V ⟨P, false, E⟩ p2)
  have HB := hideIt (fun V h => box_two w ⟨P, false, E⟩ ⟨3, p2, p3, p4⟩ V h)
  have HA := hideIt (boxed_after w ⟨P, false, E⟩ ⟨3, p2, p3, p4⟩)
  unfold boxed Sp.cs As.cs at HA HB
  unfold Sp.v at HG
  unfold Sp.v As.v
  dsimp only at *
  generalize hSD : decide (Sp.Stands ⟨P, false, E⟩ ⟨3, p2, p3, p4⟩) = SD
  generalize hGD : decide (Sp.Grows ⟨P, false, E⟩ p2) = GD at HG
  obtain rfl : SD = false := by
    rw [← hSD]
    simp only [decide_eq_false_iff_not]
    unfold Sp.Stands Sp.Counts Sp.Lasts Sp.Grows
    clear HG HA HB hGD
    first | omega | (simp; omega) | simp
  clear hSD
  clear HG hGD _hm1 _hm2 _hm3 _hm4
  go_enter Try.func27, Try.ntmps27
  go_wp2
  go_ret
  exact ⟨ret_bool (by first | rfl | (rw [decide_eq_false_iff_not]; omega) | (rw [decide_eq_true_eq]; omega)), HA.out⟩
set_option maxHeartbeats 4000000 in
theorem refState_l (w : World) (P E p2 p3 p4 : Int) (_hm1 : 1 ≤ P) (_hm2 : P ≤ 3) (_hm3 : 0 ≤ E) (_hm4 : E ≤ 10000) (_hA0 : ¬ p4 < 0) (_hB0 : ¬ 6000 < p4) : Calls Try.prog 27 #[(⟨P, true, E⟩ : Sp).v, (⟨3, p2, p3, p4⟩ : As).v] w fun e w' => e = .returned (.bool (decide (Sp.Stands ⟨P, true, E⟩ ⟨3, p2, p3, p4⟩))) ∧ After w w' := by
  have HG := hideIt (fun V => refGrows_any V ⟨P, true, E⟩ p2)
  have HB := hideIt (fun V h => box_two w ⟨P, true, E⟩ ⟨3, p2, p3, p4⟩ V h)
  have HA := hideIt (boxed_after w ⟨P, true, E⟩ ⟨3, p2, p3, p4⟩)
  unfold boxed Sp.cs As.cs at HA HB
  unfold Sp.v at HG
  unfold Sp.v As.v
  dsimp only at *
  generalize hSD : decide (Sp.Stands ⟨P, true, E⟩ ⟨3, p2, p3, p4⟩) = SD
  generalize hGD : decide (Sp.Grows ⟨P, true, E⟩ p2) = GD at HG
  by_cases hlt : p2 < P
  · skip
    obtain rfl : SD = false := by
      rw [← hSD]
      simp only [decide_eq_false_iff_not]
      unfold Sp.Stands Sp.Counts Sp.Lasts Sp.Grows
      clear HG HA HB hGD
      first | omega | (simp; omega) | simp
    clear hSD
    clear HG hGD _hm1 _hm2 _hm3 _hm4
    go_enter Try.func27, Try.ntmps27
    go_wp2
    go_ret
    exact ⟨ret_bool (by first | rfl | (rw [decide_eq_false_iff_not]; omega) | (rw [decide_eq_true_eq]; omega)), HA.out⟩
  · skip
    by_cases hgt : 3 < p2
    · skip
      obtain rfl : SD = false := by
        rw [← hSD]
        simp only [decide_eq_false_iff_not]
        unfold Sp.Stands Sp.Counts Sp.Lasts Sp.Grows
        clear HG HA HB hGD
        first | omega | (simp; omega) | simp
      clear hSD
      clear HG hGD _hm1 _hm2 _hm3 _hm4
      go_enter Try.func27, Try.ntmps27
      go_wp2
      go_ret
      exact ⟨ret_bool (by first | rfl | (rw [decide_eq_false_iff_not]; omega) | (rw [decide_eq_true_eq]; omega)), HA.out⟩
    · skip
      by_cases hzE : E = 0
      · skip
        by_cases hpP : p2 = P
        · skip
          by_cases hzp3 : p3 = 0
          · skip
            obtain rfl : SD = true := by
              rw [← hSD]
              simp only [decide_eq_true_eq]
              unfold Sp.Stands Sp.Counts Sp.Lasts Sp.Grows
              clear HG HA HB hGD
              first | omega | (simp; omega) | simp
            clear hSD
            have zE : (E == 0) = true := by simpa using hzE
            have npP : (p2 != P) = false := by simpa using hpP
            have zp3 : (p3 == 0) = true := by simpa using hzp3
            clear hzE hpP hzp3
            clear HG hGD _hm1 _hm2 _hm3 _hm4
            go_enter Try.func27, Try.ntmps27
            go_wp2
            go_ret
            exact ⟨ret_bool (by first | rfl | (rw [decide_eq_false_iff_not]; omega) | (rw [decide_eq_true_eq]; omega)), HA.out⟩
          · skip
            obtain rfl : SD = false := by
              rw [← hSD]
              simp only [decide_eq_false_iff_not]
              unfold Sp.Stands Sp.Counts Sp.Lasts Sp.Grows
              clear HG HA HB hGD
              first | omega | (simp; omega) | simp
            clear hSD
            have zE : (E == 0) = true := by simpa using hzE
            have npP : (p2 != P) = false := by simpa using hpP
            have zp3 : (p3 == 0) = false := by simpa using hzp3
            clear hzE hpP hzp3
            clear HG hGD _hm1 _hm2 _hm3 _hm4
            go_enter Try.func27, Try.ntmps27
            go_wp2
            go_ret
            exact ⟨ret_bool (by first | rfl | (rw [decide_eq_false_iff_not]; omega) | (rw [decide_eq_true_eq]; omega)), HA.out⟩
        · skip
          obtain rfl : SD = false := by
            rw [← hSD]
            simp only [decide_eq_false_iff_not]
            unfold Sp.Stands Sp.Counts Sp.Lasts Sp.Grows
            clear HG HA HB hGD
            first | omega | (simp; omega) | simp
          clear hSD
          have zE : (E == 0) = true := by simpa using hzE
          have npP : (p2 != P) = true := by simpa using hpP
          clear hzE hpP
          clear HG hGD _hm1 _hm2 _hm3 _hm4
          go_enter Try.func27, Try.ntmps27
          go_wp2
          go_ret
          exact ⟨ret_bool (by first | rfl | (rw [decide_eq_false_iff_not]; omega) | (rw [decide_eq_true_eq]; omega)), HA.out⟩
      · skip
        by_cases hzp3 : p3 = 0
        · skip
          obtain rfl : SD = true := by
            rw [← hSD]
            simp only [decide_eq_true_eq]
            unfold Sp.Stands Sp.Counts Sp.Lasts Sp.Grows
            clear HG HA HB hGD
            first | omega | (simp; omega) | simp
          clear hSD
          have zE : (E == 0) = false := by simpa using hzE
          have zp3 : (p3 == 0) = true := by simpa using hzp3
          clear hzE hzp3
          clear HG hGD _hm1 _hm2 _hm3 _hm4
          go_enter Try.func27, Try.ntmps27
          go_wp2
          go_ret
          exact ⟨ret_bool (by first | rfl | (rw [decide_eq_false_iff_not]; omega) | (rw [decide_eq_true_eq]; omega)), HA.out⟩
        · skip
          obtain rfl : SD = false := by
            rw [← hSD]
            simp only [decide_eq_false_iff_not]
            unfold Sp.Stands Sp.Counts Sp.Lasts Sp.Grows
            clear HG HA HB hGD
            first | omega | (simp; omega) | simp
          clear hSD
          have zE : (E == 0) = false := by simpa using hzE
          have zp3 : (p3 == 0) = false := by simpa using hzp3
          clear hzE hzp3
          clear HG hGD _hm1 _hm2 _hm3 _hm4
          go_enter Try.func27, Try.ntmps27
          go_wp2
          go_ret
          exact ⟨ret_bool (by first | rfl | (rw [decide_eq_false_iff_not]; omega) | (rw [decide_eq_true_eq]; omega)), HA.out⟩
theorem refState_any (w : World) (s : Sp) (x : As) (hs : s.May) : Calls Try.prog 27 #[s.v, x.v] w fun e w' => e = .returned (.bool (decide (s.Stands x))) ∧ After w w' := by
  obtain ⟨P, L, E⟩ := s
  obtain ⟨p1, p2, p3, p4⟩ := x
  obtain ⟨_hm1, _hm2, _hm3, _hm4⟩ := hs
  dsimp only at _hm1 _hm2 _hm3 _hm4
  by_cases hf : p4 < 0 ∨ 6000 < p4 ∨ p1 < 0 ∨ 3 < p1
  · exact refState_far w P E p2 p3 p4 L p1 _hm1 _hm2 _hm3 _hm4 hf
  · rcases (by omega : p1 = 0 ∨ p1 = 1 ∨ p1 = 2 ∨ p1 = 3) with rfl | rfl | rfl | rfl
    · exact refState_q w P E p2 p3 p4 L _hm1 _hm2 _hm3 _hm4 (by omega) (by omega)
    · exact refState_r w P E p2 p3 p4 L _hm1 _hm2 _hm3 _hm4 (by omega) (by omega)
    · exact refState_k w P E p2 p3 p4 L _hm1 _hm2 _hm3 _hm4 (by omega) (by omega)
    · cases L
      · exact refState_n w P E p2 p3 p4 _hm1 _hm2 _hm3 _hm4 (by omega) (by omega)
      · exact refState_l w P E p2 p3 p4 _hm1 _hm2 _hm3 _hm4 (by omega) (by omega)
theorem refAgain_ok (w : World) (s : Sp) (x : As) (hs : s.May) (hx : s.Stands x) : Calls Try.prog 10 #[s.v, x.v] w fun e w' => ∃ p, e = .returned (.tuple #[Ptr p, .int .i64 0]) ∧ Rl w' p s x ∧ w.heap.size ≤ p ∧ After w w' := by
  have HM := hideIt (fun V => refMay_any V s)
  have HT := hideIt (fun V (hs : s.May) => refState_any V s x hs)
  have HB := hideIt (fun V h => box_two w s x V h)
  have HA := hideIt (boxed_after w s x)
  rw [decide_eq_true hs] at HM
  have HT := hideIt (fun V => HT.out V hs)
  rw [decide_eq_true hx] at HT
  have HX := hideIt (And.intro hs hx)
  clear hs hx
  unfold boxed Sp.cs As.cs at HA HB
  go_enter Try.func10, Try.ntmps10
  go_wp2_with fail
  refine (HM.out _).mono ?_
  rintro e w1 ⟨rfl, a1⟩
  obtain ⟨c0, c1, c2, c3, c4, c5, c6⟩ := HB.out _ a1
  have A1 := hideIt a1
  clear a1 HM
  go_wp2_with fail
  refine (HT.out _).mono ?_
  rintro e w2 ⟨rfl, a2⟩
  clear c0 c1 c2 c3 c4 c5 c6
  obtain ⟨c0, c1, c2, c3, c4, c5, c6⟩ := HB.out _ (A1.out.trans a2)
  have A2 := hideIt (A1.out.trans a2)
  clear a2 A1 HT HB
  go_wp2
  go_ret2
  have a3 := HA.out.trans A2.out
  exact ⟨w2.heap.size, rfl, ⟨heap_alloc_new w2 _, HX.out.1, HX.out.2⟩, a3.size, a3.alloc _⟩
theorem refAgain_no (w : World) (s : Sp) (x : As) (h : ¬ (s.May ∧ s.Stands x)) : Calls Try.prog 10 #[s.v, x.v] w fun e w' => e = .returned (.tuple #[.pointer none, .int .i64 2]) ∧ After w w' := by
  have HM := hideIt (fun V => refMay_any V s)
  have HT := hideIt (fun V (hs : s.May) => refState_any V s x hs)
  have HB := hideIt (fun V h => box_two w s x V h)
  have HA := hideIt (boxed_after w s x)
  unfold boxed Sp.cs As.cs at HA HB
  by_cases hs : s.May
  · have hx : ¬ s.Stands x := fun h' => h ⟨hs, h'⟩
    rw [decide_eq_true hs] at HM
    have HT := hideIt (fun V => HT.out V hs)
    rw [decide_eq_false hx] at HT
    clear hs hx h
    go_enter Try.func10, Try.ntmps10
    go_wp2_with fail
    refine (HM.out _).mono ?_
    rintro e w1 ⟨rfl, a1⟩
    obtain ⟨c0, c1, c2, c3, c4, c5, c6⟩ := HB.out _ a1
    have A1 := hideIt a1
    clear a1 HM
    go_wp2_with fail
    refine (HT.out _).mono ?_
    rintro e w2 ⟨rfl, a2⟩
    clear c0 c1 c2 c3 c4 c5 c6
    have A2 := hideIt (A1.out.trans a2)
    clear a2 A1 HT HB
    go_wp2
    go_ret2
    exact ⟨rfl, HA.out.trans A2.out⟩
  · rw [decide_eq_false hs] at HM
    clear hs h
    go_enter Try.func10, Try.ntmps10
    go_wp2_with fail
    refine (HM.out _).mono ?_
    rintro e w1 ⟨rfl, a1⟩
    have A1 := hideIt a1
    clear a1 HM HT HB
    go_wp2
    go_ret2
    exact ⟨rfl, HA.out.trans A1.out⟩
theorem refNew_ok (w : World) (s : Sp) (hs : s.May) : Calls Try.prog 12 #[s.v] w fun e w' => ∃ p, e = .returned (.tuple #[Ptr p, .int .i64 0]) ∧ Rl w' p s As.zero ∧ w.heap.size ≤ p ∧ After w w' := by
  have HM := hideIt (fun V => refAgain_ok V s As.zero hs (Sp.Stands.zero s))
  have HA := hideIt (After.rfl.alloc (a := w) (b := w) (.cells s.cs 23))
  unfold Sp.cs at HA
  clear hs
  go_enter Try.func12, Try.ntmps12
  go_wp2_with fail
  refine (HM.out _).mono ?_
  rintro e w1 ⟨p, rfl, x, hp, a1⟩
  have H := hideIt (And.intro x (And.intro hp a1))
  clear x hp a1 HM
  go_wp2
  go_ret2
  exact ⟨p, rfl, H.out.1, Nat.le_trans HA.out.size H.out.2.1, HA.out.trans H.out.2.2⟩
theorem refNew_no (w : World) (s : Sp) (hs : ¬ s.May) : Calls Try.prog 12 #[s.v] w fun e w' => e = .returned (.tuple #[.pointer none, .int .i64 2]) ∧ After w w' := by
  have HM := hideIt (fun V => refAgain_no V s As.zero (fun h => hs h.1))
  have HA := hideIt (After.rfl.alloc (a := w) (b := w) (.cells s.cs 23))
  unfold Sp.cs at HA
  clear hs
  go_enter Try.func12, Try.ntmps12
  go_wp2_with fail
  refine (HM.out _).mono ?_
  rintro e w1 ⟨rfl, a1⟩
  have H := hideIt a1
  clear a1 HM
  go_wp2
  go_ret2
  exact ⟨rfl, HA.out.trans H.out⟩
end Go.Proofs.Ythggkpmhcdmalaa
