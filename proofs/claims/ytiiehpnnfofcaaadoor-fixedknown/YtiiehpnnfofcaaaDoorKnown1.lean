/-
  The examples of the chapter, call by call.
-/
import Derived.Test.YtiiehpnnfofcaaaDoorEqInts
import Derived.Test.YtiiehpnnfofcaaaDoorPure4
namespace Go.Proofs.YtiiehpnnfofcaaaDoor
open Go.RowKit
theorem k_add1 (w : World) : Calls Tryd.prog 11 #[.int .i64 (2147483647), .int .i64 (1)] w fun e w' => e = .returned (.int .i64 (2147483647)) ∧ w' = w := by
  have h := add_any (2147483647) (1) w
  rw [show addZ (2147483647) (1) = 2147483647 from by decide] at h
  exact h
theorem k_sub1 (w : World) : Calls Tryd.prog 13 #[.int .i64 (-2147483648), .int .i64 (5)] w fun e w' => e = .returned (.int .i64 (-2147483647)) ∧ w' = w := by
  have h := sub_any (-2147483648) (5) w
  rw [show subZ (-2147483648) (5) = -2147483647 from by decide] at h
  exact h
theorem k_cl1 (w : World) : Calls Tryd.prog 9 #[.int .i64 (-1099511627776)] w fun e w' => e = .returned (.int .i64 (-2147483647)) ∧ w' = w := by
  have h := clamp_any (-1099511627776) w
  rw [show cl (-1099511627776) = -2147483647 from by decide] at h
  exact h
theorem k_add2 (w : World) : Calls Tryd.prog 11 #[.int .i64 (9223372036854775807), .int .i64 (9223372036854775807)] w fun e w' => e = .returned (.int .i64 (2147483647)) ∧ w' = w := by
  have h := add_any (9223372036854775807) (9223372036854775807) w
  rw [show addZ (9223372036854775807) (9223372036854775807) = 2147483647 from by decide] at h
  exact h
theorem k_sub2 (w : World) : Calls Tryd.prog 13 #[.int .i64 (-9223372036854775808), .int .i64 (9223372036854775807)] w fun e w' => e = .returned (.int .i64 (-2147483647)) ∧ w' = w := by
  have h := sub_any (-9223372036854775808) (9223372036854775807) w
  rw [show subZ (-9223372036854775808) (9223372036854775807) = -2147483647 from by decide] at h
  exact h
theorem k_cl2 (w : World) : Calls Tryd.prog 9 #[.int .i64 (2147483648)] w fun e w' => e = .returned (.int .i64 (2147483647)) ∧ w' = w := by
  have h := clamp_any (2147483648) w
  rw [show cl (2147483648) = 2147483647 from by decide] at h
  exact h
theorem k_cl3 (w : World) : Calls Tryd.prog 9 #[.int .i64 (2147483647)] w fun e w' => e = .returned (.int .i64 (2147483647)) ∧ w' = w := by
  have h := clamp_any (2147483647) w
  rw [show cl (2147483647) = 2147483647 from by decide] at h
  exact h
theorem k_mul1 (w : World) : Calls Tryd.prog 15 #[.int .i64 (500), .int .i64 (1)] w fun e w' => e = .returned (.int .i64 (1)) ∧ ∃ n, w' = w.drewN n := by
  have h := mul_any (500) (1) w
  rw [show mulZ (500) (1) = 1 from by decide] at h
  exact h
theorem k_mul2 (w : World) : Calls Tryd.prog 15 #[.int .i64 (-500), .int .i64 (1)] w fun e w' => e = .returned (.int .i64 (-1)) ∧ ∃ n, w' = w.drewN n := by
  have h := mul_any (-500) (1) w
  rw [show mulZ (-500) (1) = -1 from by decide] at h
  exact h
theorem k_mul3 (w : World) : Calls Tryd.prog 15 #[.int .i64 (499), .int .i64 (1)] w fun e w' => e = .returned (.int .i64 (0)) ∧ ∃ n, w' = w.drewN n := by
  have h := mul_any (499) (1) w
  rw [show mulZ (499) (1) = 0 from by decide] at h
  exact h
theorem k_mul4 (w : World) : Calls Tryd.prog 15 #[.int .i64 (2147483647), .int .i64 (2147483647)] w fun e w' => e = .returned (.int .i64 (2147483647)) ∧ ∃ n, w' = w.drewN n := by
  have h := mul_any (2147483647) (2147483647) w
  rw [show mulZ (2147483647) (2147483647) = 2147483647 from by decide] at h
  exact h
theorem k_mul5 (w : World) : Calls Tryd.prog 15 #[.int .i64 (-9223372036854775808), .int .i64 (9223372036854775807)] w fun e w' => e = .returned (.int .i64 (-2147483647)) ∧ ∃ n, w' = w.drewN n := by
  have h := mul_any (-9223372036854775808) (9223372036854775807) w
  rw [show mulZ (-9223372036854775808) (9223372036854775807) = -2147483647 from by decide] at h
  exact h
theorem k_div0 (w : World) : Calls Tryd.prog 17 #[.int .i64 (1000), .int .i64 (3000)] w fun e w' => e = .returned (.tuple #[.int .i64 (333), .int .i64 0]) ∧ ∃ n, w' = w.drewN n := by
  have h := div_any (1000) (3000) w
  rw [show scaleZ 1000 (1000) (3000) = 333 from by decide, show scaleE (3000) = 0 from by decide] at h
  exact h
theorem k_div1 (w : World) : Calls Tryd.prog 17 #[.int .i64 (-1), .int .i64 (2000)] w fun e w' => e = .returned (.tuple #[.int .i64 (-1), .int .i64 0]) ∧ ∃ n, w' = w.drewN n := by
  have h := div_any (-1) (2000) w
  rw [show scaleZ 1000 (-1) (2000) = -1 from by decide, show scaleE (2000) = 0 from by decide] at h
  exact h
theorem k_div2 (w : World) : Calls Tryd.prog 17 #[.int .i64 (5), .int .i64 (0)] w fun e w' => e = .returned (.tuple #[.int .i64 (0), .int .i64 9]) ∧ ∃ n, w' = w.drewN n := by
  have h := div_any (5) (0) w
  rw [show scaleZ 1000 (5) (0) = 0 from by decide, show scaleE (0) = 9 from by decide] at h
  exact h
theorem k_div3 (w : World) : Calls Tryd.prog 17 #[.int .i64 (2147483647), .int .i64 (1)] w fun e w' => e = .returned (.tuple #[.int .i64 (2147483647), .int .i64 0]) ∧ ∃ n, w' = w.drewN n := by
  have h := div_any (2147483647) (1) w
  rw [show scaleZ 1000 (2147483647) (1) = 2147483647 from by decide, show scaleE (1) = 0 from by decide] at h
  exact h
theorem k_div4 (w : World) : Calls Tryd.prog 17 #[.int .i64 (-9223372036854775808), .int .i64 (9223372036854775807)] w fun e w' => e = .returned (.tuple #[.int .i64 (-1000), .int .i64 0]) ∧ ∃ n, w' = w.drewN n := by
  have h := div_any (-9223372036854775808) (9223372036854775807) w
  rw [show scaleZ 1000 (-9223372036854775808) (9223372036854775807) = -1000 from by decide, show scaleE (9223372036854775807) = 0 from by decide] at h
  exact h
theorem k_div5 (w : World) : Calls Tryd.prog 17 #[.int .i64 (1), .int .i64 (-2000)] w fun e w' => e = .returned (.tuple #[.int .i64 (-1), .int .i64 0]) ∧ ∃ n, w' = w.drewN n := by
  have h := div_any (1) (-2000) w
  rw [show scaleZ 1000 (1) (-2000) = -1 from by decide, show scaleE (-2000) = 0 from by decide] at h
  exact h
theorem k_div6 (w : World) : Calls Tryd.prog 17 #[.int .i64 (0), .int .i64 (5)] w fun e w' => e = .returned (.tuple #[.int .i64 (0), .int .i64 0]) ∧ ∃ n, w' = w.drewN n := by
  have h := div_any (0) (5) w
  rw [show scaleZ 1000 (0) (5) = 0 from by decide, show scaleE (5) = 0 from by decide] at h
  exact h
theorem k_sc0 (w : World) : Calls Tryd.prog 19 #[.int .i64 (7), .int .i64 (1), .int .i64 (2)] w fun e w' => e = .returned (.tuple #[.int .i64 (4), .int .i64 0]) ∧ ∃ n, w' = w.drewN n := by
  have h := scale_any (7) (1) (2) w
  rw [show scaleZ (7) (1) (2) = 4 from by decide, show scaleE (2) = 0 from by decide] at h
  exact h
theorem k_sc1 (w : World) : Calls Tryd.prog 19 #[.int .i64 (-7), .int .i64 (1), .int .i64 (2)] w fun e w' => e = .returned (.tuple #[.int .i64 (-4), .int .i64 0]) ∧ ∃ n, w' = w.drewN n := by
  have h := scale_any (-7) (1) (2) w
  rw [show scaleZ (-7) (1) (2) = -4 from by decide, show scaleE (2) = 0 from by decide] at h
  exact h
theorem k_sc2 (w : World) : Calls Tryd.prog 19 #[.int .i64 (1), .int .i64 (1), .int .i64 (0)] w fun e w' => e = .returned (.tuple #[.int .i64 (0), .int .i64 9]) ∧ ∃ n, w' = w.drewN n := by
  have h := scale_any (1) (1) (0) w
  rw [show scaleZ (1) (1) (0) = 0 from by decide, show scaleE (0) = 9 from by decide] at h
  exact h
theorem k_sc3 (w : World) : Calls Tryd.prog 19 #[.int .i64 (9223372036854775807), .int .i64 (9223372036854775807), .int .i64 (1)] w fun e w' => e = .returned (.tuple #[.int .i64 (2147483647), .int .i64 0]) ∧ ∃ n, w' = w.drewN n := by
  have h := scale_any (9223372036854775807) (9223372036854775807) (1) w
  rw [show scaleZ (9223372036854775807) (9223372036854775807) (1) = 2147483647 from by decide, show scaleE (1) = 0 from by decide] at h
  exact h
theorem k_sc4 (w : World) : Calls Tryd.prog 19 #[.int .i64 (9223372036854775807), .int .i64 (9223372036854775807), .int .i64 (-9223372036854775808)] w fun e w' => e = .returned (.tuple #[.int .i64 (-2147483647), .int .i64 0]) ∧ ∃ n, w' = w.drewN n := by
  have h := scale_any (9223372036854775807) (9223372036854775807) (-9223372036854775808) w
  rw [show scaleZ (9223372036854775807) (9223372036854775807) (-9223372036854775808) = -2147483647 from by decide, show scaleE (-9223372036854775808) = 0 from by decide] at h
  exact h
theorem k_sc5 (w : World) : Calls Tryd.prog 19 #[.int .i64 (3), .int .i64 (-1), .int .i64 (-2)] w fun e w' => e = .returned (.tuple #[.int .i64 (2), .int .i64 0]) ∧ ∃ n, w' = w.drewN n := by
  have h := scale_any (3) (-1) (-2) w
  rw [show scaleZ (3) (-1) (-2) = 2 from by decide, show scaleE (-2) = 0 from by decide] at h
  exact h
theorem k_sc6 (w : World) : Calls Tryd.prog 19 #[.int .i64 (0), .int .i64 (0), .int .i64 (1)] w fun e w' => e = .returned (.tuple #[.int .i64 (0), .int .i64 0]) ∧ ∃ n, w' = w.drewN n := by
  have h := scale_any (0) (0) (1) w
  rw [show scaleZ (0) (0) (1) = 0 from by decide, show scaleE (1) = 0 from by decide] at h
  exact h
theorem k_text0 (w : World) (ht : Tab w) : Calls Tryd.prog 22 #[.int .i64 (36600)] w fun e w' => e = .returned (.string ⟨#[51, 54, 46, 54]⟩) ∧ After w w' := by
  have e0 : textL (36600) = [] ++ Lib.itoa 36 ++ partL 600 := rfl
  have e1 : Lib.itoa 36 = Lib.decDigits 36 := by unfold Lib.itoa; rw [if_neg (by decide)]; congr 1
  have e2 : Lib.decDigits 36 = [51, 54] := by rw [decDigits_step _ (by decide), decDigits_one _ (by decide)]; decide
  have e3 : textL (36600) = [51, 54, 46, 54] := by rw [e0, e1, e2]; decide
  have h := text_any (36600) w ht
  rw [e3] at h
  exact h
theorem k_text1 (w : World) (ht : Tab w) : Calls Tryd.prog 22 #[.int .i64 (0)] w fun e w' => e = .returned (.string ⟨#[48]⟩) ∧ After w w' := by
  have e0 : textL (0) = [] ++ Lib.itoa 0 ++ partL 0 := rfl
  have e1 : Lib.itoa 0 = Lib.decDigits 0 := by unfold Lib.itoa; rw [if_neg (by decide)]; congr 1
  have e2 : Lib.decDigits 0 = [48] := by rw [decDigits_one _ (by decide)]; decide
  have e3 : textL (0) = [48] := by rw [e0, e1, e2]; decide
  have h := text_any (0) w ht
  rw [e3] at h
  exact h
theorem k_text2 (w : World) (ht : Tab w) : Calls Tryd.prog 22 #[.int .i64 (1000)] w fun e w' => e = .returned (.string ⟨#[49]⟩) ∧ After w w' := by
  have e0 : textL (1000) = [] ++ Lib.itoa 1 ++ partL 0 := rfl
  have e1 : Lib.itoa 1 = Lib.decDigits 1 := by unfold Lib.itoa; rw [if_neg (by decide)]; congr 1
  have e2 : Lib.decDigits 1 = [49] := by rw [decDigits_one _ (by decide)]; decide
  have e3 : textL (1000) = [49] := by rw [e0, e1, e2]; decide
  have h := text_any (1000) w ht
  rw [e3] at h
  exact h
theorem k_text3 (w : World) (ht : Tab w) : Calls Tryd.prog 22 #[.int .i64 (-9223372036854775808)] w fun e w' => e = .returned (.string ⟨#[45, 50, 49, 52, 55, 52, 56, 51, 46, 54, 52, 55]⟩) ∧ After w w' := by
  have e0 : textL (-9223372036854775808) = [45] ++ Lib.itoa 2147483 ++ partL 647 := rfl
  have e1 : Lib.itoa 2147483 = Lib.decDigits 2147483 := by unfold Lib.itoa; rw [if_neg (by decide)]; congr 1
  have e2 : Lib.decDigits 2147483 = [50, 49, 52, 55, 52, 56, 51] := by rw [decDigits_step _ (by decide), decDigits_step _ (by decide), decDigits_step _ (by decide), decDigits_step _ (by decide), decDigits_step _ (by decide), decDigits_step _ (by decide), decDigits_one _ (by decide)]; decide
  have e3 : textL (-9223372036854775808) = [45, 50, 49, 52, 55, 52, 56, 51, 46, 54, 52, 55] := by rw [e0, e1, e2]; decide
  have h := text_any (-9223372036854775808) w ht
  rw [e3] at h
  exact h
theorem k_text4 (w : World) (ht : Tab w) : Calls Tryd.prog 22 #[.int .i64 (10)] w fun e w' => e = .returned (.string ⟨#[48, 46, 48, 49]⟩) ∧ After w w' := by
  have e0 : textL (10) = [] ++ Lib.itoa 0 ++ partL 10 := rfl
  have e1 : Lib.itoa 0 = Lib.decDigits 0 := by unfold Lib.itoa; rw [if_neg (by decide)]; congr 1
  have e2 : Lib.decDigits 0 = [48] := by rw [decDigits_one _ (by decide)]; decide
  have e3 : textL (10) = [48, 46, 48, 49] := by rw [e0, e1, e2]; decide
  have h := text_any (10) w ht
  rw [e3] at h
  exact h
theorem k_text5 (w : World) (ht : Tab w) : Calls Tryd.prog 22 #[.int .i64 (-1000000)] w fun e w' => e = .returned (.string ⟨#[45, 49, 48, 48, 48]⟩) ∧ After w w' := by
  have e0 : textL (-1000000) = [45] ++ Lib.itoa 1000 ++ partL 0 := rfl
  have e1 : Lib.itoa 1000 = Lib.decDigits 1000 := by unfold Lib.itoa; rw [if_neg (by decide)]; congr 1
  have e2 : Lib.decDigits 1000 = [49, 48, 48, 48] := by rw [decDigits_step _ (by decide), decDigits_step _ (by decide), decDigits_step _ (by decide), decDigits_one _ (by decide)]; decide
  have e3 : textL (-1000000) = [45, 49, 48, 48, 48] := by rw [e0, e1, e2]; decide
  have h := text_any (-1000000) w ht
  rw [e3] at h
  exact h
theorem k_read0 (w : World) : Calls Tryd.prog 24 #[.string ⟨#[50, 46, 48, 48, 48]⟩] w fun e w' => e = .returned (.tuple #[.int .i64 (2000), .int .i64 0]) ∧ After w w' := by
  have h := parse_any ⟨#[50, 46, 48, 48, 48]⟩ w (by decide)
  rw [show parseV (⟨#[50, 46, 48, 48, 48]⟩ : ByteArray).data.toList = 2000 from by decide, show parseE (⟨#[50, 46, 48, 48, 48]⟩ : ByteArray).data.toList = 0 from by decide] at h
  exact h
theorem k_read1 (w : World) : Calls Tryd.prog 24 #[.string ⟨#[45, 48, 46, 48, 48, 53]⟩] w fun e w' => e = .returned (.tuple #[.int .i64 (-5), .int .i64 0]) ∧ After w w' := by
  have h := parse_any ⟨#[45, 48, 46, 48, 48, 53]⟩ w (by decide)
  rw [show parseV (⟨#[45, 48, 46, 48, 48, 53]⟩ : ByteArray).data.toList = -5 from by decide, show parseE (⟨#[45, 48, 46, 48, 48, 53]⟩ : ByteArray).data.toList = 0 from by decide] at h
  exact h
theorem k_read2 (w : World) : Calls Tryd.prog 24 #[.string ⟨#[50, 49, 52, 55, 52, 56, 51, 46, 54, 52, 55]⟩] w fun e w' => e = .returned (.tuple #[.int .i64 (2147483647), .int .i64 0]) ∧ After w w' := by
  have h := parse_any ⟨#[50, 49, 52, 55, 52, 56, 51, 46, 54, 52, 55]⟩ w (by decide)
  rw [show parseV (⟨#[50, 49, 52, 55, 52, 56, 51, 46, 54, 52, 55]⟩ : ByteArray).data.toList = 2147483647 from by decide, show parseE (⟨#[50, 49, 52, 55, 52, 56, 51, 46, 54, 52, 55]⟩ : ByteArray).data.toList = 0 from by decide] at h
  exact h
theorem k_read3 (w : World) : Calls Tryd.prog 24 #[.string ⟨#[50, 49, 52, 55, 52, 56, 51, 46, 54, 52, 56]⟩] w fun e w' => e = .returned (.tuple #[.int .i64 (0), .int .i64 9]) ∧ After w w' := by
  have h := parse_any ⟨#[50, 49, 52, 55, 52, 56, 51, 46, 54, 52, 56]⟩ w (by decide)
  rw [show parseV (⟨#[50, 49, 52, 55, 52, 56, 51, 46, 54, 52, 56]⟩ : ByteArray).data.toList = 0 from by decide, show parseE (⟨#[50, 49, 52, 55, 52, 56, 51, 46, 54, 52, 56]⟩ : ByteArray).data.toList = 9 from by decide] at h
  exact h
theorem k_read4 (w : World) : Calls Tryd.prog 24 #[.string ⟨#[45, 50, 49, 52, 55, 52, 56, 51, 46, 54, 52, 56]⟩] w fun e w' => e = .returned (.tuple #[.int .i64 (0), .int .i64 9]) ∧ After w w' := by
  have h := parse_any ⟨#[45, 50, 49, 52, 55, 52, 56, 51, 46, 54, 52, 56]⟩ w (by decide)
  rw [show parseV (⟨#[45, 50, 49, 52, 55, 52, 56, 51, 46, 54, 52, 56]⟩ : ByteArray).data.toList = 0 from by decide, show parseE (⟨#[45, 50, 49, 52, 55, 52, 56, 51, 46, 54, 52, 56]⟩ : ByteArray).data.toList = 9 from by decide] at h
  exact h
theorem k_read5 (w : World) : Calls Tryd.prog 24 #[.string ⟨#[57, 57, 57, 57, 57, 57, 57, 46, 57, 57, 57]⟩] w fun e w' => e = .returned (.tuple #[.int .i64 (0), .int .i64 9]) ∧ After w w' := by
  have h := parse_any ⟨#[57, 57, 57, 57, 57, 57, 57, 46, 57, 57, 57]⟩ w (by decide)
  rw [show parseV (⟨#[57, 57, 57, 57, 57, 57, 57, 46, 57, 57, 57]⟩ : ByteArray).data.toList = 0 from by decide, show parseE (⟨#[57, 57, 57, 57, 57, 57, 57, 46, 57, 57, 57]⟩ : ByteArray).data.toList = 9 from by decide] at h
  exact h
theorem k_read6 (w : World) : Calls Tryd.prog 24 #[.string ⟨#[48, 46, 48]⟩] w fun e w' => e = .returned (.tuple #[.int .i64 (0), .int .i64 0]) ∧ After w w' := by
  have h := parse_any ⟨#[48, 46, 48]⟩ w (by decide)
  rw [show parseV (⟨#[48, 46, 48]⟩ : ByteArray).data.toList = 0 from by decide, show parseE (⟨#[48, 46, 48]⟩ : ByteArray).data.toList = 0 from by decide] at h
  exact h
theorem k_read7 (w : World) : Calls Tryd.prog 24 #[.string ⟨#[49, 46, 53, 48]⟩] w fun e w' => e = .returned (.tuple #[.int .i64 (1500), .int .i64 0]) ∧ After w w' := by
  have h := parse_any ⟨#[49, 46, 53, 48]⟩ w (by decide)
  rw [show parseV (⟨#[49, 46, 53, 48]⟩ : ByteArray).data.toList = 1500 from by decide, show parseE (⟨#[49, 46, 53, 48]⟩ : ByteArray).data.toList = 0 from by decide] at h
  exact h
theorem k_read8 (w : World) : Calls Tryd.prog 24 #[.string ⟨#[48]⟩] w fun e w' => e = .returned (.tuple #[.int .i64 (0), .int .i64 0]) ∧ After w w' := by
  have h := parse_any ⟨#[48]⟩ w (by decide)
  rw [show parseV (⟨#[48]⟩ : ByteArray).data.toList = 0 from by decide, show parseE (⟨#[48]⟩ : ByteArray).data.toList = 0 from by decide] at h
  exact h
theorem k_bad0 (w : World) : Calls Tryd.prog 24 #[.string ⟨#[]⟩] w fun e w' => e = .returned (.tuple #[.int .i64 (0), .int .i64 4]) ∧ After w w' := by
  have h := parse_any ⟨#[]⟩ w (by decide)
  rw [show parseV (⟨#[]⟩ : ByteArray).data.toList = 0 from by decide, show parseE (⟨#[]⟩ : ByteArray).data.toList = 4 from by decide] at h
  exact h
theorem k_bad1 (w : World) : Calls Tryd.prog 24 #[.string ⟨#[45]⟩] w fun e w' => e = .returned (.tuple #[.int .i64 (0), .int .i64 4]) ∧ After w w' := by
  have h := parse_any ⟨#[45]⟩ w (by decide)
  rw [show parseV (⟨#[45]⟩ : ByteArray).data.toList = 0 from by decide, show parseE (⟨#[45]⟩ : ByteArray).data.toList = 4 from by decide] at h
  exact h
theorem k_bad2 (w : World) : Calls Tryd.prog 24 #[.string ⟨#[46]⟩] w fun e w' => e = .returned (.tuple #[.int .i64 (0), .int .i64 4]) ∧ After w w' := by
  have h := parse_any ⟨#[46]⟩ w (by decide)
  rw [show parseV (⟨#[46]⟩ : ByteArray).data.toList = 0 from by decide, show parseE (⟨#[46]⟩ : ByteArray).data.toList = 4 from by decide] at h
  exact h
theorem k_bad3 (w : World) : Calls Tryd.prog 24 #[.string ⟨#[45, 48]⟩] w fun e w' => e = .returned (.tuple #[.int .i64 (0), .int .i64 4]) ∧ After w w' := by
  have h := parse_any ⟨#[45, 48]⟩ w (by decide)
  rw [show parseV (⟨#[45, 48]⟩ : ByteArray).data.toList = 0 from by decide, show parseE (⟨#[45, 48]⟩ : ByteArray).data.toList = 4 from by decide] at h
  exact h
theorem k_bad4 (w : World) : Calls Tryd.prog 24 #[.string ⟨#[45, 48, 46, 48, 48, 48]⟩] w fun e w' => e = .returned (.tuple #[.int .i64 (0), .int .i64 4]) ∧ After w w' := by
  have h := parse_any ⟨#[45, 48, 46, 48, 48, 48]⟩ w (by decide)
  rw [show parseV (⟨#[45, 48, 46, 48, 48, 48]⟩ : ByteArray).data.toList = 0 from by decide, show parseE (⟨#[45, 48, 46, 48, 48, 48]⟩ : ByteArray).data.toList = 4 from by decide] at h
  exact h
theorem k_bad5 (w : World) : Calls Tryd.prog 24 #[.string ⟨#[48, 49]⟩] w fun e w' => e = .returned (.tuple #[.int .i64 (0), .int .i64 4]) ∧ After w w' := by
  have h := parse_any ⟨#[48, 49]⟩ w (by decide)
  rw [show parseV (⟨#[48, 49]⟩ : ByteArray).data.toList = 0 from by decide, show parseE (⟨#[48, 49]⟩ : ByteArray).data.toList = 4 from by decide] at h
  exact h
theorem k_bad6 (w : World) : Calls Tryd.prog 24 #[.string ⟨#[48, 48]⟩] w fun e w' => e = .returned (.tuple #[.int .i64 (0), .int .i64 4]) ∧ After w w' := by
  have h := parse_any ⟨#[48, 48]⟩ w (by decide)
  rw [show parseV (⟨#[48, 48]⟩ : ByteArray).data.toList = 0 from by decide, show parseE (⟨#[48, 48]⟩ : ByteArray).data.toList = 4 from by decide] at h
  exact h
theorem k_bad7 (w : World) : Calls Tryd.prog 24 #[.string ⟨#[46, 53]⟩] w fun e w' => e = .returned (.tuple #[.int .i64 (0), .int .i64 4]) ∧ After w w' := by
  have h := parse_any ⟨#[46, 53]⟩ w (by decide)
  rw [show parseV (⟨#[46, 53]⟩ : ByteArray).data.toList = 0 from by decide, show parseE (⟨#[46, 53]⟩ : ByteArray).data.toList = 4 from by decide] at h
  exact h
theorem k_bad8 (w : World) : Calls Tryd.prog 24 #[.string ⟨#[53, 46]⟩] w fun e w' => e = .returned (.tuple #[.int .i64 (0), .int .i64 4]) ∧ After w w' := by
  have h := parse_any ⟨#[53, 46]⟩ w (by decide)
  rw [show parseV (⟨#[53, 46]⟩ : ByteArray).data.toList = 0 from by decide, show parseE (⟨#[53, 46]⟩ : ByteArray).data.toList = 4 from by decide] at h
  exact h
theorem k_bad9 (w : World) : Calls Tryd.prog 24 #[.string ⟨#[49, 46, 50, 51, 52, 53]⟩] w fun e w' => e = .returned (.tuple #[.int .i64 (0), .int .i64 4]) ∧ After w w' := by
  have h := parse_any ⟨#[49, 46, 50, 51, 52, 53]⟩ w (by decide)
  rw [show parseV (⟨#[49, 46, 50, 51, 52, 53]⟩ : ByteArray).data.toList = 0 from by decide, show parseE (⟨#[49, 46, 50, 51, 52, 53]⟩ : ByteArray).data.toList = 4 from by decide] at h
  exact h
theorem k_bad10 (w : World) : Calls Tryd.prog 24 #[.string ⟨#[49, 50, 51, 52, 53, 54, 55, 56]⟩] w fun e w' => e = .returned (.tuple #[.int .i64 (0), .int .i64 4]) ∧ After w w' := by
  have h := parse_any ⟨#[49, 50, 51, 52, 53, 54, 55, 56]⟩ w (by decide)
  rw [show parseV (⟨#[49, 50, 51, 52, 53, 54, 55, 56]⟩ : ByteArray).data.toList = 0 from by decide, show parseE (⟨#[49, 50, 51, 52, 53, 54, 55, 56]⟩ : ByteArray).data.toList = 4 from by decide] at h
  exact h
theorem k_bad11 (w : World) : Calls Tryd.prog 24 #[.string ⟨#[43, 49]⟩] w fun e w' => e = .returned (.tuple #[.int .i64 (0), .int .i64 4]) ∧ After w w' := by
  have h := parse_any ⟨#[43, 49]⟩ w (by decide)
  rw [show parseV (⟨#[43, 49]⟩ : ByteArray).data.toList = 0 from by decide, show parseE (⟨#[43, 49]⟩ : ByteArray).data.toList = 4 from by decide] at h
  exact h
theorem k_bad12 (w : World) : Calls Tryd.prog 24 #[.string ⟨#[49, 101, 51]⟩] w fun e w' => e = .returned (.tuple #[.int .i64 (0), .int .i64 4]) ∧ After w w' := by
  have h := parse_any ⟨#[49, 101, 51]⟩ w (by decide)
  rw [show parseV (⟨#[49, 101, 51]⟩ : ByteArray).data.toList = 0 from by decide, show parseE (⟨#[49, 101, 51]⟩ : ByteArray).data.toList = 4 from by decide] at h
  exact h
theorem k_bad13 (w : World) : Calls Tryd.prog 24 #[.string ⟨#[32, 49]⟩] w fun e w' => e = .returned (.tuple #[.int .i64 (0), .int .i64 4]) ∧ After w w' := by
  have h := parse_any ⟨#[32, 49]⟩ w (by decide)
  rw [show parseV (⟨#[32, 49]⟩ : ByteArray).data.toList = 0 from by decide, show parseE (⟨#[32, 49]⟩ : ByteArray).data.toList = 4 from by decide] at h
  exact h
theorem k_bad14 (w : World) : Calls Tryd.prog 24 #[.string ⟨#[49, 32]⟩] w fun e w' => e = .returned (.tuple #[.int .i64 (0), .int .i64 4]) ∧ After w w' := by
  have h := parse_any ⟨#[49, 32]⟩ w (by decide)
  rw [show parseV (⟨#[49, 32]⟩ : ByteArray).data.toList = 0 from by decide, show parseE (⟨#[49, 32]⟩ : ByteArray).data.toList = 4 from by decide] at h
  exact h
theorem k_bad15 (w : World) : Calls Tryd.prog 24 #[.string ⟨#[45, 45, 49]⟩] w fun e w' => e = .returned (.tuple #[.int .i64 (0), .int .i64 4]) ∧ After w w' := by
  have h := parse_any ⟨#[45, 45, 49]⟩ w (by decide)
  rw [show parseV (⟨#[45, 45, 49]⟩ : ByteArray).data.toList = 0 from by decide, show parseE (⟨#[45, 45, 49]⟩ : ByteArray).data.toList = 4 from by decide] at h
  exact h
theorem k_bad16 (w : World) : Calls Tryd.prog 24 #[.string ⟨#[49, 46, 45, 53]⟩] w fun e w' => e = .returned (.tuple #[.int .i64 (0), .int .i64 4]) ∧ After w w' := by
  have h := parse_any ⟨#[49, 46, 45, 53]⟩ w (by decide)
  rw [show parseV (⟨#[49, 46, 45, 53]⟩ : ByteArray).data.toList = 0 from by decide, show parseE (⟨#[49, 46, 45, 53]⟩ : ByteArray).data.toList = 4 from by decide] at h
  exact h
theorem k_bad17 (w : World) : Calls Tryd.prog 24 #[.string ⟨#[49, 46, 46, 53]⟩] w fun e w' => e = .returned (.tuple #[.int .i64 (0), .int .i64 4]) ∧ After w w' := by
  have h := parse_any ⟨#[49, 46, 46, 53]⟩ w (by decide)
  rw [show parseV (⟨#[49, 46, 46, 53]⟩ : ByteArray).data.toList = 0 from by decide, show parseE (⟨#[49, 46, 46, 53]⟩ : ByteArray).data.toList = 4 from by decide] at h
  exact h
theorem k_bad18 (w : World) : Calls Tryd.prog 24 #[.string ⟨#[49, 46, 53, 46, 53]⟩] w fun e w' => e = .returned (.tuple #[.int .i64 (0), .int .i64 4]) ∧ After w w' := by
  have h := parse_any ⟨#[49, 46, 53, 46, 53]⟩ w (by decide)
  rw [show parseV (⟨#[49, 46, 53, 46, 53]⟩ : ByteArray).data.toList = 0 from by decide, show parseE (⟨#[49, 46, 53, 46, 53]⟩ : ByteArray).data.toList = 4 from by decide] at h
  exact h
theorem k_bad19 (w : World) : Calls Tryd.prog 24 #[.string ⟨#[48, 120, 49]⟩] w fun e w' => e = .returned (.tuple #[.int .i64 (0), .int .i64 4]) ∧ After w w' := by
  have h := parse_any ⟨#[48, 120, 49]⟩ w (by decide)
  rw [show parseV (⟨#[48, 120, 49]⟩ : ByteArray).data.toList = 0 from by decide, show parseE (⟨#[48, 120, 49]⟩ : ByteArray).data.toList = 4 from by decide] at h
  exact h
end Go.Proofs.YtiiehpnnfofcaaaDoor
