/-
  The walk of RealGrows: numbers keep their order, signs turn, and both forms say the same, but for 1.
-/
import Derived.Test.YtjblckljbgelaaaWorks
import Derived.Test.YtjblckljbgelaaaFlo
namespace Go.Proofs.Ytjblckljbgelaaa
open Go.RowKit
open Fl (fl)
theorem th_num {m e : Int} (h : numB 0 m e = true) : thZ 0 m e = fixZ m e := by unfold thZ; rw [if_pos h]
theorem run_negf (X : Nat) (w : World) : (Op.unary .neg (.float .f64 X)).run Try.prog w = .ok (.float .f64 (Op.negFloat .f64 X)) w := rfl
theorem bne_of_beq {a b : Option Ordering} (h : (a == b) = true) : (a != b) = false := by simp only [bne, h, Bool.not_true]
set_option maxHeartbeats 4000000 in
theorem grows_in_a (m more e M D E : Int) (hM : m % 16777211 = M + 8388605) (hE : e % 256 = E + 128) (hD : more % 8388605 = D) (hM1 : -8388605 ≤ M) (hM2 : M ≤ 8388605) (hE1 : -128 ≤ E) (hE2 : E ≤ 127) (hD1 : 0 ≤ D) (hD2 : D ≤ 8388604) (hc : M + D ≤ 8388605) (a : Int) (ha : fixZ M E = a) (b1 : -2147483647 < a) (b2 : a < 2147483647) (w : World) :
    Calls Try.prog 8 #[.int .i64 m, .int .i64 more, .int .i64 e] w fun e w' => e = .returned (.bool true) ∧ After w w' := by
  have HM := hideIt hM
  have HE := hideIt hE
  have HD := hideIt hD
  have nM : numB 0 M E = true := num_of (by omega)
  have nN : numB 0 (M + D) E = true := num_of (by omega)
  have nC : numB 0 (-M) E = true := num_of (by omega)
  have hab := fix_mono M (M + D) E (by omega)
  have TA := hideIt ((th_num nM).trans ha)
  have FA := hideIt ha
  have TC := hideIt ((th_num nC).trans ((fix_neg M E hM1 hM2).trans (by rw [ha] : -fixZ M E = -a)))
  have hle := Fl.fl_le (m := M) (n := M + D) (e := E) (by omega) hM1 (by omega) hE2
  have hng := bne_of_beq (Fl.fl_neg hM1 hM2 hE2)
  have ab1 := cl_lo (rd (cl M * cl (pw (E + 3))) (cl (pw (-3 - E))))
  have ab2 := cl_hi (rd (cl M * cl (pw (E + 3))) (cl (pw (-3 - E))))
  rw [← fix_eq, ha] at ab1 ab2
  rw [ha] at hab
  obtain ⟨b, hb⟩ : ∃ b, fixZ (M + D) E = b := ⟨_, rfl⟩
  rw [hb] at hab
  have TB := hideIt ((th_num nN).trans hb)
  obtain ⟨X, hX⟩ : ∃ X, fl M E = X := ⟨_, rfl⟩
  obtain ⟨Y, hY⟩ : ∃ Y, fl (M + D) E = Y := ⟨_, rfl⟩
  obtain ⟨Z, hZ⟩ : ∃ Z, fl (-M) E = Z := ⟨_, rfl⟩
  rw [hX, hY] at hle
  rw [hZ, hX] at hng
  have FX := hideIt hX
  have FY := hideIt hY
  have FZ := hideIt hZ
  obtain ⟨x, f, g1, g2, g3, g4⟩ := Fl.fl_near hM1 hM2 hE2 (by rw [ha]; exact b1) (by rw [ha]; exact b2)
  rw [hX] at g1
  rw [ha] at g2
  have r1 : ∀ t w, (binOp .mul t (.float .f64 X) (.float .f64 4652007308841189376)).run Try.prog w = .ok (.float .f64 x) w := fun t w => run_float_arith w .mul t .f64 _ _ _ g1
  have r2 : ∀ t w, (binOp .sub t (.float .f64 x) (.float .f64 (floatOfInt .f64 a))).run Try.prog w = .ok (.float .f64 f) w := fun t w => run_float_arith w .sub t .f64 _ _ _ g2
  clear g1 g2
  clear hM hE hD ha hb hX hY hZ
  have HA : After w w := After.rfl
  go_enter Try.func8, Try.ntmps8
  go_wp2_with fail
  refine (works_any _).mono ?_
  rintro e' w1 ⟨rfl, A1⟩
  replace HA := HA.trans A1
  clear A1
  go_wp2_with fail
  refine (bring_any m 16777211 _ (by omega) (by omega)).mono ?_
  rintro e' w2 ⟨rfl, rfl⟩
  rw [HM.out]
  go_wp2_with fail
  refine (bring_any e 256 _ (by omega) (by omega)).mono ?_
  rintro e' w3 ⟨rfl, rfl⟩
  rw [HE.out]
  go_wp2_with fail
  refine (bring_any more 8388605 _ (by omega) (by omega)).mono ?_
  rintro e' w4 ⟨rfl, rfl⟩
  rw [HD.out]
  go_wp2_with fail
  refine (number_any M E _).mono ?_
  rintro e' w5 ⟨rfl, A5⟩
  replace HA := HA.trans A5
  clear A5
  go_wp2_with fail
  refine (thousandths_any 0 M E _).mono ?_
  rintro e' w6 ⟨rfl, A6⟩
  replace HA := HA.trans A6
  clear A6
  rw [TA.out]
  go_wp2_with fail
  refine (number_any (M + D) E _).mono ?_
  rintro e' w7 ⟨rfl, A7⟩
  replace HA := HA.trans A7
  clear A7
  go_wp2_with fail
  refine (thousandths_any 0 (M + D) E _).mono ?_
  rintro e' w8 ⟨rfl, A8⟩
  replace HA := HA.trans A8
  clear A8
  rw [TB.out]
  go_wp2_with fail
  refine (number_any M E _).mono ?_
  rintro e' w9 ⟨rfl, A9⟩
  replace HA := HA.trans A9
  clear A9
  go_wp2_with fail
  refine (float_yes 0 M E _ nM).mono ?_
  rintro e' w10 ⟨rfl, A10⟩
  replace HA := HA.trans A10
  clear A10
  rw [FX.out]
  go_wp2_with fail
  refine (number_any (M + D) E _).mono ?_
  rintro e' w11 ⟨rfl, A11⟩
  replace HA := HA.trans A11
  clear A11
  go_wp2_with fail
  refine (float_yes 0 (M + D) E _ nN).mono ?_
  rintro e' w12 ⟨rfl, A12⟩
  replace HA := HA.trans A12
  clear A12
  rw [FY.out]
  go_wp2_with fail
  refine (number_any M E _).mono ?_
  rintro e' w13 ⟨rfl, A13⟩
  replace HA := HA.trans A13
  clear A13
  go_wp2_with fail
  refine (fixed_yes 0 M E _ nM hE1 hE2).mono ?_
  rintro e' w14 ⟨rfl, A14⟩
  replace HA := HA.trans A14
  clear A14
  rw [FA.out]
  go_wp2_with fail
  refine (number_any (-M) E _).mono ?_
  rintro e' w15 ⟨rfl, A15⟩
  replace HA := HA.trans A15
  clear A15
  go_wp2_with fail
  refine (thousandths_any 0 (-M) E _).mono ?_
  rintro e' w16 ⟨rfl, A16⟩
  replace HA := HA.trans A16
  clear A16
  rw [TC.out]
  go_wp2_with fail
  refine (number_any (-M) E _).mono ?_
  rintro e' w17 ⟨rfl, A17⟩
  replace HA := HA.trans A17
  clear A17
  go_wp2_with fail
  refine (float_yes 0 (-M) E _ nC).mono ?_
  rintro e' w18 ⟨rfl, A18⟩
  replace HA := HA.trans A18
  clear A18
  rw [FZ.out]
  go_wp2_with (first | simp only [run_negf] | simp only [r1] | simp only [r2])
  go_ret
  exact ⟨rfl, HA⟩
set_option maxHeartbeats 4000000 in
theorem grows_in_b (m more e M D E : Int) (hM : m % 16777211 = M + 8388605) (hE : e % 256 = E + 128) (hD : more % 8388605 = D) (hM1 : -8388605 ≤ M) (hM2 : M ≤ 8388605) (hE1 : -128 ≤ E) (hE2 : E ≤ 127) (hD1 : 0 ≤ D) (hD2 : D ≤ 8388604) (hc : 8388605 < M + D) (a : Int) (ha : fixZ M E = a) (b1 : -2147483647 < a) (b2 : a < 2147483647) (w : World) :
    Calls Try.prog 8 #[.int .i64 m, .int .i64 more, .int .i64 e] w fun e w' => e = .returned (.bool true) ∧ After w w' := by
  have HM := hideIt hM
  have HE := hideIt hE
  have HD := hideIt hD
  have nM : numB 0 M E = true := num_of (by omega)
  have nN : numB 0 (8388605) E = true := num_of (by omega)
  have nC : numB 0 (-M) E = true := num_of (by omega)
  have hab := fix_mono M (8388605) E (by omega)
  have TA := hideIt ((th_num nM).trans ha)
  have FA := hideIt ha
  have TC := hideIt ((th_num nC).trans ((fix_neg M E hM1 hM2).trans (by rw [ha] : -fixZ M E = -a)))
  have hle := Fl.fl_le (m := M) (n := 8388605) (e := E) (by omega) hM1 (by omega) hE2
  have hng := bne_of_beq (Fl.fl_neg hM1 hM2 hE2)
  have ab1 := cl_lo (rd (cl M * cl (pw (E + 3))) (cl (pw (-3 - E))))
  have ab2 := cl_hi (rd (cl M * cl (pw (E + 3))) (cl (pw (-3 - E))))
  rw [← fix_eq, ha] at ab1 ab2
  rw [ha] at hab
  obtain ⟨b, hb⟩ : ∃ b, fixZ (8388605) E = b := ⟨_, rfl⟩
  rw [hb] at hab
  have TB := hideIt ((th_num nN).trans hb)
  obtain ⟨X, hX⟩ : ∃ X, fl M E = X := ⟨_, rfl⟩
  obtain ⟨Y, hY⟩ : ∃ Y, fl (8388605) E = Y := ⟨_, rfl⟩
  obtain ⟨Z, hZ⟩ : ∃ Z, fl (-M) E = Z := ⟨_, rfl⟩
  rw [hX, hY] at hle
  rw [hZ, hX] at hng
  have FX := hideIt hX
  have FY := hideIt hY
  have FZ := hideIt hZ
  obtain ⟨x, f, g1, g2, g3, g4⟩ := Fl.fl_near hM1 hM2 hE2 (by rw [ha]; exact b1) (by rw [ha]; exact b2)
  rw [hX] at g1
  rw [ha] at g2
  have r1 : ∀ t w, (binOp .mul t (.float .f64 X) (.float .f64 4652007308841189376)).run Try.prog w = .ok (.float .f64 x) w := fun t w => run_float_arith w .mul t .f64 _ _ _ g1
  have r2 : ∀ t w, (binOp .sub t (.float .f64 x) (.float .f64 (floatOfInt .f64 a))).run Try.prog w = .ok (.float .f64 f) w := fun t w => run_float_arith w .sub t .f64 _ _ _ g2
  clear g1 g2
  clear hM hE hD ha hb hX hY hZ
  have HA : After w w := After.rfl
  go_enter Try.func8, Try.ntmps8
  go_wp2_with fail
  refine (works_any _).mono ?_
  rintro e' w1 ⟨rfl, A1⟩
  replace HA := HA.trans A1
  clear A1
  go_wp2_with fail
  refine (bring_any m 16777211 _ (by omega) (by omega)).mono ?_
  rintro e' w2 ⟨rfl, rfl⟩
  rw [HM.out]
  go_wp2_with fail
  refine (bring_any e 256 _ (by omega) (by omega)).mono ?_
  rintro e' w3 ⟨rfl, rfl⟩
  rw [HE.out]
  go_wp2_with fail
  refine (bring_any more 8388605 _ (by omega) (by omega)).mono ?_
  rintro e' w4 ⟨rfl, rfl⟩
  rw [HD.out]
  go_wp2_with fail
  refine (number_any M E _).mono ?_
  rintro e' w5 ⟨rfl, A5⟩
  replace HA := HA.trans A5
  clear A5
  go_wp2_with fail
  refine (thousandths_any 0 M E _).mono ?_
  rintro e' w6 ⟨rfl, A6⟩
  replace HA := HA.trans A6
  clear A6
  rw [TA.out]
  go_wp2_with fail
  refine (number_any 8388605 E _).mono ?_
  rintro e' w7 ⟨rfl, A7⟩
  replace HA := HA.trans A7
  clear A7
  go_wp2_with fail
  refine (thousandths_any 0 8388605 E _).mono ?_
  rintro e' w8 ⟨rfl, A8⟩
  replace HA := HA.trans A8
  clear A8
  rw [TB.out]
  go_wp2_with fail
  refine (number_any M E _).mono ?_
  rintro e' w9 ⟨rfl, A9⟩
  replace HA := HA.trans A9
  clear A9
  go_wp2_with fail
  refine (float_yes 0 M E _ nM).mono ?_
  rintro e' w10 ⟨rfl, A10⟩
  replace HA := HA.trans A10
  clear A10
  rw [FX.out]
  go_wp2_with fail
  refine (number_any 8388605 E _).mono ?_
  rintro e' w11 ⟨rfl, A11⟩
  replace HA := HA.trans A11
  clear A11
  go_wp2_with fail
  refine (float_yes 0 8388605 E _ nN).mono ?_
  rintro e' w12 ⟨rfl, A12⟩
  replace HA := HA.trans A12
  clear A12
  rw [FY.out]
  go_wp2_with fail
  refine (number_any M E _).mono ?_
  rintro e' w13 ⟨rfl, A13⟩
  replace HA := HA.trans A13
  clear A13
  go_wp2_with fail
  refine (fixed_yes 0 M E _ nM hE1 hE2).mono ?_
  rintro e' w14 ⟨rfl, A14⟩
  replace HA := HA.trans A14
  clear A14
  rw [FA.out]
  go_wp2_with fail
  refine (number_any (-M) E _).mono ?_
  rintro e' w15 ⟨rfl, A15⟩
  replace HA := HA.trans A15
  clear A15
  go_wp2_with fail
  refine (thousandths_any 0 (-M) E _).mono ?_
  rintro e' w16 ⟨rfl, A16⟩
  replace HA := HA.trans A16
  clear A16
  rw [TC.out]
  go_wp2_with fail
  refine (number_any (-M) E _).mono ?_
  rintro e' w17 ⟨rfl, A17⟩
  replace HA := HA.trans A17
  clear A17
  go_wp2_with fail
  refine (float_yes 0 (-M) E _ nC).mono ?_
  rintro e' w18 ⟨rfl, A18⟩
  replace HA := HA.trans A18
  clear A18
  rw [FZ.out]
  go_wp2_with (first | simp only [run_negf] | simp only [r1] | simp only [r2])
  go_ret
  exact ⟨rfl, HA⟩
set_option maxHeartbeats 4000000 in
theorem grows_hi_a (m more e M D E : Int) (hM : m % 16777211 = M + 8388605) (hE : e % 256 = E + 128) (hD : more % 8388605 = D) (hM1 : -8388605 ≤ M) (hM2 : M ≤ 8388605) (hE1 : -128 ≤ E) (hE2 : E ≤ 127) (hD1 : 0 ≤ D) (hD2 : D ≤ 8388604) (hc : M + D ≤ 8388605) (a : Int) (ha : fixZ M E = a) (b1 : 2147483647 ≤ a) (w : World) :
    Calls Try.prog 8 #[.int .i64 m, .int .i64 more, .int .i64 e] w fun e w' => e = .returned (.bool true) ∧ After w w' := by
  have HM := hideIt hM
  have HE := hideIt hE
  have HD := hideIt hD
  have nM : numB 0 M E = true := num_of (by omega)
  have nN : numB 0 (M + D) E = true := num_of (by omega)
  have nC : numB 0 (-M) E = true := num_of (by omega)
  have hab := fix_mono M (M + D) E (by omega)
  have TA := hideIt ((th_num nM).trans ha)
  have FA := hideIt ha
  have TC := hideIt ((th_num nC).trans ((fix_neg M E hM1 hM2).trans (by rw [ha] : -fixZ M E = -a)))
  have hle := Fl.fl_le (m := M) (n := M + D) (e := E) (by omega) hM1 (by omega) hE2
  have hng := bne_of_beq (Fl.fl_neg hM1 hM2 hE2)
  have ab1 := cl_lo (rd (cl M * cl (pw (E + 3))) (cl (pw (-3 - E))))
  have ab2 := cl_hi (rd (cl M * cl (pw (E + 3))) (cl (pw (-3 - E))))
  rw [← fix_eq, ha] at ab1 ab2
  rw [ha] at hab
  obtain ⟨b, hb⟩ : ∃ b, fixZ (M + D) E = b := ⟨_, rfl⟩
  rw [hb] at hab
  have TB := hideIt ((th_num nN).trans hb)
  obtain ⟨X, hX⟩ : ∃ X, fl M E = X := ⟨_, rfl⟩
  obtain ⟨Y, hY⟩ : ∃ Y, fl (M + D) E = Y := ⟨_, rfl⟩
  obtain ⟨Z, hZ⟩ : ∃ Z, fl (-M) E = Z := ⟨_, rfl⟩
  rw [hX, hY] at hle
  rw [hZ, hX] at hng
  have FX := hideIt hX
  have FY := hideIt hY
  have FZ := hideIt hZ
  have g3 := Fl.fl_hi hM1 hM2 hE2 (by rw [ha]; exact b1)
  rw [hX] at g3
  clear hM hE hD ha hb hX hY hZ
  have HA : After w w := After.rfl
  go_enter Try.func8, Try.ntmps8
  go_wp2_with fail
  refine (works_any _).mono ?_
  rintro e' w1 ⟨rfl, A1⟩
  replace HA := HA.trans A1
  clear A1
  go_wp2_with fail
  refine (bring_any m 16777211 _ (by omega) (by omega)).mono ?_
  rintro e' w2 ⟨rfl, rfl⟩
  rw [HM.out]
  go_wp2_with fail
  refine (bring_any e 256 _ (by omega) (by omega)).mono ?_
  rintro e' w3 ⟨rfl, rfl⟩
  rw [HE.out]
  go_wp2_with fail
  refine (bring_any more 8388605 _ (by omega) (by omega)).mono ?_
  rintro e' w4 ⟨rfl, rfl⟩
  rw [HD.out]
  go_wp2_with fail
  refine (number_any M E _).mono ?_
  rintro e' w5 ⟨rfl, A5⟩
  replace HA := HA.trans A5
  clear A5
  go_wp2_with fail
  refine (thousandths_any 0 M E _).mono ?_
  rintro e' w6 ⟨rfl, A6⟩
  replace HA := HA.trans A6
  clear A6
  rw [TA.out]
  go_wp2_with fail
  refine (number_any (M + D) E _).mono ?_
  rintro e' w7 ⟨rfl, A7⟩
  replace HA := HA.trans A7
  clear A7
  go_wp2_with fail
  refine (thousandths_any 0 (M + D) E _).mono ?_
  rintro e' w8 ⟨rfl, A8⟩
  replace HA := HA.trans A8
  clear A8
  rw [TB.out]
  go_wp2_with fail
  refine (number_any M E _).mono ?_
  rintro e' w9 ⟨rfl, A9⟩
  replace HA := HA.trans A9
  clear A9
  go_wp2_with fail
  refine (float_yes 0 M E _ nM).mono ?_
  rintro e' w10 ⟨rfl, A10⟩
  replace HA := HA.trans A10
  clear A10
  rw [FX.out]
  go_wp2_with fail
  refine (number_any (M + D) E _).mono ?_
  rintro e' w11 ⟨rfl, A11⟩
  replace HA := HA.trans A11
  clear A11
  go_wp2_with fail
  refine (float_yes 0 (M + D) E _ nN).mono ?_
  rintro e' w12 ⟨rfl, A12⟩
  replace HA := HA.trans A12
  clear A12
  rw [FY.out]
  go_wp2_with fail
  refine (number_any M E _).mono ?_
  rintro e' w13 ⟨rfl, A13⟩
  replace HA := HA.trans A13
  clear A13
  go_wp2_with fail
  refine (fixed_yes 0 M E _ nM hE1 hE2).mono ?_
  rintro e' w14 ⟨rfl, A14⟩
  replace HA := HA.trans A14
  clear A14
  rw [FA.out]
  go_wp2_with fail
  refine (number_any (-M) E _).mono ?_
  rintro e' w15 ⟨rfl, A15⟩
  replace HA := HA.trans A15
  clear A15
  go_wp2_with fail
  refine (thousandths_any 0 (-M) E _).mono ?_
  rintro e' w16 ⟨rfl, A16⟩
  replace HA := HA.trans A16
  clear A16
  rw [TC.out]
  go_wp2_with fail
  refine (number_any (-M) E _).mono ?_
  rintro e' w17 ⟨rfl, A17⟩
  replace HA := HA.trans A17
  clear A17
  go_wp2_with fail
  refine (float_yes 0 (-M) E _ nC).mono ?_
  rintro e' w18 ⟨rfl, A18⟩
  replace HA := HA.trans A18
  clear A18
  rw [FZ.out]
  go_wp2_with (simp only [run_negf])
  go_ret
  exact ⟨rfl, HA⟩
set_option maxHeartbeats 4000000 in
theorem grows_hi_b (m more e M D E : Int) (hM : m % 16777211 = M + 8388605) (hE : e % 256 = E + 128) (hD : more % 8388605 = D) (hM1 : -8388605 ≤ M) (hM2 : M ≤ 8388605) (hE1 : -128 ≤ E) (hE2 : E ≤ 127) (hD1 : 0 ≤ D) (hD2 : D ≤ 8388604) (hc : 8388605 < M + D) (a : Int) (ha : fixZ M E = a) (b1 : 2147483647 ≤ a) (w : World) :
    Calls Try.prog 8 #[.int .i64 m, .int .i64 more, .int .i64 e] w fun e w' => e = .returned (.bool true) ∧ After w w' := by
  have HM := hideIt hM
  have HE := hideIt hE
  have HD := hideIt hD
  have nM : numB 0 M E = true := num_of (by omega)
  have nN : numB 0 (8388605) E = true := num_of (by omega)
  have nC : numB 0 (-M) E = true := num_of (by omega)
  have hab := fix_mono M (8388605) E (by omega)
  have TA := hideIt ((th_num nM).trans ha)
  have FA := hideIt ha
  have TC := hideIt ((th_num nC).trans ((fix_neg M E hM1 hM2).trans (by rw [ha] : -fixZ M E = -a)))
  have hle := Fl.fl_le (m := M) (n := 8388605) (e := E) (by omega) hM1 (by omega) hE2
  have hng := bne_of_beq (Fl.fl_neg hM1 hM2 hE2)
  have ab1 := cl_lo (rd (cl M * cl (pw (E + 3))) (cl (pw (-3 - E))))
  have ab2 := cl_hi (rd (cl M * cl (pw (E + 3))) (cl (pw (-3 - E))))
  rw [← fix_eq, ha] at ab1 ab2
  rw [ha] at hab
  obtain ⟨b, hb⟩ : ∃ b, fixZ (8388605) E = b := ⟨_, rfl⟩
  rw [hb] at hab
  have TB := hideIt ((th_num nN).trans hb)
  obtain ⟨X, hX⟩ : ∃ X, fl M E = X := ⟨_, rfl⟩
  obtain ⟨Y, hY⟩ : ∃ Y, fl (8388605) E = Y := ⟨_, rfl⟩
  obtain ⟨Z, hZ⟩ : ∃ Z, fl (-M) E = Z := ⟨_, rfl⟩
  rw [hX, hY] at hle
  rw [hZ, hX] at hng
  have FX := hideIt hX
  have FY := hideIt hY
  have FZ := hideIt hZ
  have g3 := Fl.fl_hi hM1 hM2 hE2 (by rw [ha]; exact b1)
  rw [hX] at g3
  clear hM hE hD ha hb hX hY hZ
  have HA : After w w := After.rfl
  go_enter Try.func8, Try.ntmps8
  go_wp2_with fail
  refine (works_any _).mono ?_
  rintro e' w1 ⟨rfl, A1⟩
  replace HA := HA.trans A1
  clear A1
  go_wp2_with fail
  refine (bring_any m 16777211 _ (by omega) (by omega)).mono ?_
  rintro e' w2 ⟨rfl, rfl⟩
  rw [HM.out]
  go_wp2_with fail
  refine (bring_any e 256 _ (by omega) (by omega)).mono ?_
  rintro e' w3 ⟨rfl, rfl⟩
  rw [HE.out]
  go_wp2_with fail
  refine (bring_any more 8388605 _ (by omega) (by omega)).mono ?_
  rintro e' w4 ⟨rfl, rfl⟩
  rw [HD.out]
  go_wp2_with fail
  refine (number_any M E _).mono ?_
  rintro e' w5 ⟨rfl, A5⟩
  replace HA := HA.trans A5
  clear A5
  go_wp2_with fail
  refine (thousandths_any 0 M E _).mono ?_
  rintro e' w6 ⟨rfl, A6⟩
  replace HA := HA.trans A6
  clear A6
  rw [TA.out]
  go_wp2_with fail
  refine (number_any 8388605 E _).mono ?_
  rintro e' w7 ⟨rfl, A7⟩
  replace HA := HA.trans A7
  clear A7
  go_wp2_with fail
  refine (thousandths_any 0 8388605 E _).mono ?_
  rintro e' w8 ⟨rfl, A8⟩
  replace HA := HA.trans A8
  clear A8
  rw [TB.out]
  go_wp2_with fail
  refine (number_any M E _).mono ?_
  rintro e' w9 ⟨rfl, A9⟩
  replace HA := HA.trans A9
  clear A9
  go_wp2_with fail
  refine (float_yes 0 M E _ nM).mono ?_
  rintro e' w10 ⟨rfl, A10⟩
  replace HA := HA.trans A10
  clear A10
  rw [FX.out]
  go_wp2_with fail
  refine (number_any 8388605 E _).mono ?_
  rintro e' w11 ⟨rfl, A11⟩
  replace HA := HA.trans A11
  clear A11
  go_wp2_with fail
  refine (float_yes 0 8388605 E _ nN).mono ?_
  rintro e' w12 ⟨rfl, A12⟩
  replace HA := HA.trans A12
  clear A12
  rw [FY.out]
  go_wp2_with fail
  refine (number_any M E _).mono ?_
  rintro e' w13 ⟨rfl, A13⟩
  replace HA := HA.trans A13
  clear A13
  go_wp2_with fail
  refine (fixed_yes 0 M E _ nM hE1 hE2).mono ?_
  rintro e' w14 ⟨rfl, A14⟩
  replace HA := HA.trans A14
  clear A14
  rw [FA.out]
  go_wp2_with fail
  refine (number_any (-M) E _).mono ?_
  rintro e' w15 ⟨rfl, A15⟩
  replace HA := HA.trans A15
  clear A15
  go_wp2_with fail
  refine (thousandths_any 0 (-M) E _).mono ?_
  rintro e' w16 ⟨rfl, A16⟩
  replace HA := HA.trans A16
  clear A16
  rw [TC.out]
  go_wp2_with fail
  refine (number_any (-M) E _).mono ?_
  rintro e' w17 ⟨rfl, A17⟩
  replace HA := HA.trans A17
  clear A17
  go_wp2_with fail
  refine (float_yes 0 (-M) E _ nC).mono ?_
  rintro e' w18 ⟨rfl, A18⟩
  replace HA := HA.trans A18
  clear A18
  rw [FZ.out]
  go_wp2_with (simp only [run_negf])
  go_ret
  exact ⟨rfl, HA⟩
set_option maxHeartbeats 4000000 in
theorem grows_lo_a (m more e M D E : Int) (hM : m % 16777211 = M + 8388605) (hE : e % 256 = E + 128) (hD : more % 8388605 = D) (hM1 : -8388605 ≤ M) (hM2 : M ≤ 8388605) (hE1 : -128 ≤ E) (hE2 : E ≤ 127) (hD1 : 0 ≤ D) (hD2 : D ≤ 8388604) (hc : M + D ≤ 8388605) (a : Int) (ha : fixZ M E = a) (b1 : a ≤ -2147483647) (w : World) :
    Calls Try.prog 8 #[.int .i64 m, .int .i64 more, .int .i64 e] w fun e w' => e = .returned (.bool true) ∧ After w w' := by
  have HM := hideIt hM
  have HE := hideIt hE
  have HD := hideIt hD
  have nM : numB 0 M E = true := num_of (by omega)
  have nN : numB 0 (M + D) E = true := num_of (by omega)
  have nC : numB 0 (-M) E = true := num_of (by omega)
  have hab := fix_mono M (M + D) E (by omega)
  have TA := hideIt ((th_num nM).trans ha)
  have FA := hideIt ha
  have TC := hideIt ((th_num nC).trans ((fix_neg M E hM1 hM2).trans (by rw [ha] : -fixZ M E = -a)))
  have hle := Fl.fl_le (m := M) (n := M + D) (e := E) (by omega) hM1 (by omega) hE2
  have hng := bne_of_beq (Fl.fl_neg hM1 hM2 hE2)
  have ab1 := cl_lo (rd (cl M * cl (pw (E + 3))) (cl (pw (-3 - E))))
  have ab2 := cl_hi (rd (cl M * cl (pw (E + 3))) (cl (pw (-3 - E))))
  rw [← fix_eq, ha] at ab1 ab2
  rw [ha] at hab
  obtain ⟨b, hb⟩ : ∃ b, fixZ (M + D) E = b := ⟨_, rfl⟩
  rw [hb] at hab
  have TB := hideIt ((th_num nN).trans hb)
  obtain ⟨X, hX⟩ : ∃ X, fl M E = X := ⟨_, rfl⟩
  obtain ⟨Y, hY⟩ : ∃ Y, fl (M + D) E = Y := ⟨_, rfl⟩
  obtain ⟨Z, hZ⟩ : ∃ Z, fl (-M) E = Z := ⟨_, rfl⟩
  rw [hX, hY] at hle
  rw [hZ, hX] at hng
  have FX := hideIt hX
  have FY := hideIt hY
  have FZ := hideIt hZ
  obtain ⟨g3, g4⟩ := Fl.fl_lo hM1 hM2 hE2 (by rw [ha]; exact b1)
  rw [hX] at g3 g4
  clear hM hE hD ha hb hX hY hZ
  have HA : After w w := After.rfl
  go_enter Try.func8, Try.ntmps8
  go_wp2_with fail
  refine (works_any _).mono ?_
  rintro e' w1 ⟨rfl, A1⟩
  replace HA := HA.trans A1
  clear A1
  go_wp2_with fail
  refine (bring_any m 16777211 _ (by omega) (by omega)).mono ?_
  rintro e' w2 ⟨rfl, rfl⟩
  rw [HM.out]
  go_wp2_with fail
  refine (bring_any e 256 _ (by omega) (by omega)).mono ?_
  rintro e' w3 ⟨rfl, rfl⟩
  rw [HE.out]
  go_wp2_with fail
  refine (bring_any more 8388605 _ (by omega) (by omega)).mono ?_
  rintro e' w4 ⟨rfl, rfl⟩
  rw [HD.out]
  go_wp2_with fail
  refine (number_any M E _).mono ?_
  rintro e' w5 ⟨rfl, A5⟩
  replace HA := HA.trans A5
  clear A5
  go_wp2_with fail
  refine (thousandths_any 0 M E _).mono ?_
  rintro e' w6 ⟨rfl, A6⟩
  replace HA := HA.trans A6
  clear A6
  rw [TA.out]
  go_wp2_with fail
  refine (number_any (M + D) E _).mono ?_
  rintro e' w7 ⟨rfl, A7⟩
  replace HA := HA.trans A7
  clear A7
  go_wp2_with fail
  refine (thousandths_any 0 (M + D) E _).mono ?_
  rintro e' w8 ⟨rfl, A8⟩
  replace HA := HA.trans A8
  clear A8
  rw [TB.out]
  go_wp2_with fail
  refine (number_any M E _).mono ?_
  rintro e' w9 ⟨rfl, A9⟩
  replace HA := HA.trans A9
  clear A9
  go_wp2_with fail
  refine (float_yes 0 M E _ nM).mono ?_
  rintro e' w10 ⟨rfl, A10⟩
  replace HA := HA.trans A10
  clear A10
  rw [FX.out]
  go_wp2_with fail
  refine (number_any (M + D) E _).mono ?_
  rintro e' w11 ⟨rfl, A11⟩
  replace HA := HA.trans A11
  clear A11
  go_wp2_with fail
  refine (float_yes 0 (M + D) E _ nN).mono ?_
  rintro e' w12 ⟨rfl, A12⟩
  replace HA := HA.trans A12
  clear A12
  rw [FY.out]
  go_wp2_with fail
  refine (number_any M E _).mono ?_
  rintro e' w13 ⟨rfl, A13⟩
  replace HA := HA.trans A13
  clear A13
  go_wp2_with fail
  refine (fixed_yes 0 M E _ nM hE1 hE2).mono ?_
  rintro e' w14 ⟨rfl, A14⟩
  replace HA := HA.trans A14
  clear A14
  rw [FA.out]
  go_wp2_with fail
  refine (number_any (-M) E _).mono ?_
  rintro e' w15 ⟨rfl, A15⟩
  replace HA := HA.trans A15
  clear A15
  go_wp2_with fail
  refine (thousandths_any 0 (-M) E _).mono ?_
  rintro e' w16 ⟨rfl, A16⟩
  replace HA := HA.trans A16
  clear A16
  rw [TC.out]
  go_wp2_with fail
  refine (number_any (-M) E _).mono ?_
  rintro e' w17 ⟨rfl, A17⟩
  replace HA := HA.trans A17
  clear A17
  go_wp2_with fail
  refine (float_yes 0 (-M) E _ nC).mono ?_
  rintro e' w18 ⟨rfl, A18⟩
  replace HA := HA.trans A18
  clear A18
  rw [FZ.out]
  go_wp2_with (simp only [run_negf])
  go_ret
  exact ⟨rfl, HA⟩
set_option maxHeartbeats 4000000 in
theorem grows_lo_b (m more e M D E : Int) (hM : m % 16777211 = M + 8388605) (hE : e % 256 = E + 128) (hD : more % 8388605 = D) (hM1 : -8388605 ≤ M) (hM2 : M ≤ 8388605) (hE1 : -128 ≤ E) (hE2 : E ≤ 127) (hD1 : 0 ≤ D) (hD2 : D ≤ 8388604) (hc : 8388605 < M + D) (a : Int) (ha : fixZ M E = a) (b1 : a ≤ -2147483647) (w : World) :
    Calls Try.prog 8 #[.int .i64 m, .int .i64 more, .int .i64 e] w fun e w' => e = .returned (.bool true) ∧ After w w' := by
  have HM := hideIt hM
  have HE := hideIt hE
  have HD := hideIt hD
  have nM : numB 0 M E = true := num_of (by omega)
  have nN : numB 0 (8388605) E = true := num_of (by omega)
  have nC : numB 0 (-M) E = true := num_of (by omega)
  have hab := fix_mono M (8388605) E (by omega)
  have TA := hideIt ((th_num nM).trans ha)
  have FA := hideIt ha
  have TC := hideIt ((th_num nC).trans ((fix_neg M E hM1 hM2).trans (by rw [ha] : -fixZ M E = -a)))
  have hle := Fl.fl_le (m := M) (n := 8388605) (e := E) (by omega) hM1 (by omega) hE2
  have hng := bne_of_beq (Fl.fl_neg hM1 hM2 hE2)
  have ab1 := cl_lo (rd (cl M * cl (pw (E + 3))) (cl (pw (-3 - E))))
  have ab2 := cl_hi (rd (cl M * cl (pw (E + 3))) (cl (pw (-3 - E))))
  rw [← fix_eq, ha] at ab1 ab2
  rw [ha] at hab
  obtain ⟨b, hb⟩ : ∃ b, fixZ (8388605) E = b := ⟨_, rfl⟩
  rw [hb] at hab
  have TB := hideIt ((th_num nN).trans hb)
  obtain ⟨X, hX⟩ : ∃ X, fl M E = X := ⟨_, rfl⟩
  obtain ⟨Y, hY⟩ : ∃ Y, fl (8388605) E = Y := ⟨_, rfl⟩
  obtain ⟨Z, hZ⟩ : ∃ Z, fl (-M) E = Z := ⟨_, rfl⟩
  rw [hX, hY] at hle
  rw [hZ, hX] at hng
  have FX := hideIt hX
  have FY := hideIt hY
  have FZ := hideIt hZ
  obtain ⟨g3, g4⟩ := Fl.fl_lo hM1 hM2 hE2 (by rw [ha]; exact b1)
  rw [hX] at g3 g4
  clear hM hE hD ha hb hX hY hZ
  have HA : After w w := After.rfl
  go_enter Try.func8, Try.ntmps8
  go_wp2_with fail
  refine (works_any _).mono ?_
  rintro e' w1 ⟨rfl, A1⟩
  replace HA := HA.trans A1
  clear A1
  go_wp2_with fail
  refine (bring_any m 16777211 _ (by omega) (by omega)).mono ?_
  rintro e' w2 ⟨rfl, rfl⟩
  rw [HM.out]
  go_wp2_with fail
  refine (bring_any e 256 _ (by omega) (by omega)).mono ?_
  rintro e' w3 ⟨rfl, rfl⟩
  rw [HE.out]
  go_wp2_with fail
  refine (bring_any more 8388605 _ (by omega) (by omega)).mono ?_
  rintro e' w4 ⟨rfl, rfl⟩
  rw [HD.out]
  go_wp2_with fail
  refine (number_any M E _).mono ?_
  rintro e' w5 ⟨rfl, A5⟩
  replace HA := HA.trans A5
  clear A5
  go_wp2_with fail
  refine (thousandths_any 0 M E _).mono ?_
  rintro e' w6 ⟨rfl, A6⟩
  replace HA := HA.trans A6
  clear A6
  rw [TA.out]
  go_wp2_with fail
  refine (number_any 8388605 E _).mono ?_
  rintro e' w7 ⟨rfl, A7⟩
  replace HA := HA.trans A7
  clear A7
  go_wp2_with fail
  refine (thousandths_any 0 8388605 E _).mono ?_
  rintro e' w8 ⟨rfl, A8⟩
  replace HA := HA.trans A8
  clear A8
  rw [TB.out]
  go_wp2_with fail
  refine (number_any M E _).mono ?_
  rintro e' w9 ⟨rfl, A9⟩
  replace HA := HA.trans A9
  clear A9
  go_wp2_with fail
  refine (float_yes 0 M E _ nM).mono ?_
  rintro e' w10 ⟨rfl, A10⟩
  replace HA := HA.trans A10
  clear A10
  rw [FX.out]
  go_wp2_with fail
  refine (number_any 8388605 E _).mono ?_
  rintro e' w11 ⟨rfl, A11⟩
  replace HA := HA.trans A11
  clear A11
  go_wp2_with fail
  refine (float_yes 0 8388605 E _ nN).mono ?_
  rintro e' w12 ⟨rfl, A12⟩
  replace HA := HA.trans A12
  clear A12
  rw [FY.out]
  go_wp2_with fail
  refine (number_any M E _).mono ?_
  rintro e' w13 ⟨rfl, A13⟩
  replace HA := HA.trans A13
  clear A13
  go_wp2_with fail
  refine (fixed_yes 0 M E _ nM hE1 hE2).mono ?_
  rintro e' w14 ⟨rfl, A14⟩
  replace HA := HA.trans A14
  clear A14
  rw [FA.out]
  go_wp2_with fail
  refine (number_any (-M) E _).mono ?_
  rintro e' w15 ⟨rfl, A15⟩
  replace HA := HA.trans A15
  clear A15
  go_wp2_with fail
  refine (thousandths_any 0 (-M) E _).mono ?_
  rintro e' w16 ⟨rfl, A16⟩
  replace HA := HA.trans A16
  clear A16
  rw [TC.out]
  go_wp2_with fail
  refine (number_any (-M) E _).mono ?_
  rintro e' w17 ⟨rfl, A17⟩
  replace HA := HA.trans A17
  clear A17
  go_wp2_with fail
  refine (float_yes 0 (-M) E _ nC).mono ?_
  rintro e' w18 ⟨rfl, A18⟩
  replace HA := HA.trans A18
  clear A18
  rw [FZ.out]
  go_wp2_with (simp only [run_negf])
  go_ret
  exact ⟨rfl, HA⟩
theorem grows_walk (m more e : Int) (_ : -9223372036854775808 ≤ m) (_ : m ≤ 9223372036854775807) (_ : -9223372036854775808 ≤ more) (_ : more ≤ 9223372036854775807) (_ : -9223372036854775808 ≤ e) (_ : e ≤ 9223372036854775807) (w : World) :
    Calls Try.prog 8 #[.int .i64 m, .int .i64 more, .int .i64 e] w fun e w' => e = .returned (.bool true) ∧ After w w' := by
  have q1 : m % 16777211 = (m % 16777211 - 8388605) + 8388605 := by omega
  have q2 : e % 256 = (e % 256 - 128) + 128 := by omega
  by_cases hc : m % 16777211 - 8388605 + more % 8388605 ≤ 8388605
  · by_cases h1 : fixZ (m % 16777211 - 8388605) (e % 256 - 128) ≤ -2147483647
    · exact grows_lo_a m more e _ _ _ q1 q2 rfl (by omega) (by omega) (by omega) (by omega) (by omega) (by omega) hc _ rfl h1 w
    · by_cases h2 : 2147483647 ≤ fixZ (m % 16777211 - 8388605) (e % 256 - 128)
      · exact grows_hi_a m more e _ _ _ q1 q2 rfl (by omega) (by omega) (by omega) (by omega) (by omega) (by omega) hc _ rfl h2 w
      · exact grows_in_a m more e _ _ _ q1 q2 rfl (by omega) (by omega) (by omega) (by omega) (by omega) (by omega) hc _ rfl (by omega) (by omega) w
  · by_cases h1 : fixZ (m % 16777211 - 8388605) (e % 256 - 128) ≤ -2147483647
    · exact grows_lo_b m more e _ _ _ q1 q2 rfl (by omega) (by omega) (by omega) (by omega) (by omega) (by omega) (by omega) _ rfl h1 w
    · by_cases h2 : 2147483647 ≤ fixZ (m % 16777211 - 8388605) (e % 256 - 128)
      · exact grows_hi_b m more e _ _ _ q1 q2 rfl (by omega) (by omega) (by omega) (by omega) (by omega) (by omega) (by omega) _ rfl h2 w
      · exact grows_in_b m more e _ _ _ q1 q2 rfl (by omega) (by omega) (by omega) (by omega) (by omega) (by omega) (by omega) _ rfl (by omega) (by omega) w
end Go.Proofs.Ytjblckljbgelaaa
