/-
  works: the few numbers that every statement asks first.
-/
import Derived.Test.YtjblckljbgelaabPack
import Derived.Test.YtjblckljbgelaabRefOf
namespace Go.Proofs.Ytjblckljbgelaab
open Go.RowKit
theorem k1 : psV 0 366 (-1) = 61806 := by decide
theorem k2 : psE 0 366 (-1) = 0 := by decide
theorem k3 : shK 61806 = 0 := by decide
theorem k4 : shM 61806 = 366 := by decide
theorem k5 : shE 61806 = -1 := by decide
theorem k6 : thZ 0 366 (-1) = 36600 := by decide
theorem k7 : ofM 36600 = 366 := by decide
theorem k8 : ofE 36600 = -1 := by decide
theorem k9 : shK 2047 = 1 := by decide
theorem k10 : shM 2047 = 0 := by decide
theorem k11 : shE 2047 = 0 := by decide
set_option maxHeartbeats 1000000 in
theorem works_any (w : World) : Calls Try.prog 14 #[] w fun x w' => x = .returned (.bool true) ∧ After w w' := by
  go_enter Try.func14, Try.ntmps14
  go_wp2_with fail
  refine (number_any 366 (-1) _).mono ?_
  rintro e w1 ⟨rfl, h1⟩
  go_wp2_with fail
  refine (packShort_any 0 366 (-1) _).mono ?_
  rintro e w2 ⟨rfl, h2⟩
  rw [k1, k2]
  go_wp2_with fail
  refine (short_any 61806 _ (by omega) (by omega)).mono ?_
  rintro e w3 ⟨rfl, h3⟩
  rw [k3, k4, k5]
  go_wp2_with fail
  refine (number_any 366 (-1) _).mono ?_
  rintro e w4 ⟨rfl, h4⟩
  go_wp2_with fail
  refine (number_any 366 (-1) _).mono ?_
  rintro e w5 ⟨rfl, h5⟩
  go_wp2_with fail
  refine (thousandths_any 0 366 (-1) _).mono ?_
  rintro e w6 ⟨rfl, h6⟩
  rw [k6]
  go_wp2_with fail
  refine (of_any 36600 _).mono ?_
  rintro e w7 ⟨rfl, h7⟩
  rw [k7, k8]
  go_wp2_with fail
  refine (number_any 366 (-1) _).mono ?_
  rintro e w8 ⟨rfl, h8⟩
  go_wp2_with fail
  refine (short_any 2047 _ (by omega) (by omega)).mono ?_
  rintro e w9 ⟨rfl, h9⟩
  rw [k9, k10, k11]
  go_wp2
  go_ret
  exact ⟨rfl, ((((((((h1.trans h2).trans h3).trans h4).trans h5).trans h6).trans h7).trans h8).trans h9)⟩
end Go.Proofs.Ytjblckljbgelaab
