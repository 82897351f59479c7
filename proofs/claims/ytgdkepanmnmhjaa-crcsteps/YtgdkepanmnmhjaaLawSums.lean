/-
  The walks of CrcSums and CrcSteps.
-/
import Derived.Test.YtgdkepanmnmhjaaWorks
namespace Go.Proofs.Ytgdkepanmnmhjaa
open Go.RowKit
set_option maxRecDepth 100000 in
theorem sums_walk (a : Option Addr) (n c : Nat) (zs : List Int) (w : World) (hr : Row w a n zs) (ha : a = none → n = 0 ∧ c = 0) (hn : n ≤ 140737488355328) :
    Calls Try.prog 3 #[.slice a n c] w fun e w' => e = .returned (.bool true) ∧ After w w' := by
  have HR := hideIt hr
  have HA := hideIt ha
  have HN := hideIt hn
  clear hr ha hn
  obtain ⟨Z1, hZ1⟩ : ∃ Z, Z = sum16 zs := ⟨_, rfl⟩
  obtain ⟨Z2, hZ2⟩ : ∃ Z, Z = sum32 zs := ⟨_, rfl⟩
  have H1 := hideIt hZ1
  have H2 := hideIt hZ2
  clear hZ1 hZ2
  go_enter Try.func3, Try.ntmps3
  go_wp2_with fail
  refine (copy_any _ _ _ _ _ HR.out HA.out HN.out).mono ?_
  rintro e w1 ⟨v, rfl, o1, h1⟩
  obtain ⟨a', c', rfl, r1, _⟩ := own_row o1 HR.out.2.1
  have R1 := hideIt r1
  have A1 := hideIt h1
  clear o1 r1 h1
  go_wp2_with fail
  refine (sum16_any _ _ _ _ _ R1.out HN.out).mono ?_
  rintro e w2 ⟨rfl, h2⟩
  rw [← H1.out]
  have R2 := hideIt (R1.out.after h2)
  have A2 := hideIt (A1.out.trans h2)
  clear h2 R1 A1
  go_wp2_with fail
  refine (refSum16_any _ _ _ _ _ (HR.out.after A2.out) HN.out).mono ?_
  rintro e w2' ⟨rfl, rfl⟩
  rw [← H1.out]
  go_wp2_with fail
  refine (sum32_any _ _ _ _ _ R2.out HN.out).mono ?_
  rintro e w3 ⟨rfl, h3⟩
  rw [← H2.out]
  have R3 := hideIt (R2.out.after h3)
  have A3 := hideIt (A2.out.trans h3)
  clear h3 R2 A2
  go_wp2_with fail
  refine (refSum32_any _ _ _ _ _ (HR.out.after A3.out) HN.out).mono ?_
  rintro e w3' ⟨rfl, rfl⟩
  rw [← H2.out]
  go_wp2_with fail
  refine (eqBytes_same _ _ _ _ _ _ _ R3.out (HR.out.after A3.out) HN.out).mono ?_
  rintro e w4 ⟨rfl, h4⟩
  have A4 := hideIt (A3.out.trans h4)
  clear h4 R3 A3
  go_wp2_with fail
  refine (awake_any _).mono ?_
  rintro e w5 ⟨rfl, h5⟩
  have A5 := hideIt (A4.out.trans h5)
  clear h5 A4
  go_wp2
  go_ret
  exact ⟨rfl, A5.out⟩
theorem steps_walk (s b : Int) (w : World) (h1 : 0 ≤ s) (h2 : s ≤ 65535) (h3 : 0 ≤ b) (h4 : b ≤ 255) :
    Calls Try.prog 4 #[.int .u16 s, .int .u8 b] w fun e w' => e = .returned (.bool true) ∧ After w w' := by
  obtain ⟨S, rfl⟩ := Int.eq_ofNat_of_zero_le h1
  obtain ⟨B, rfl⟩ := Int.eq_ofNat_of_zero_le h3
  have L1 := hideIt (show S < 65536 by omega)
  have L2 := hideIt (show B < 256 by omega)
  clear h1 h2 h3 h4
  obtain ⟨Z1, hZ1⟩ : ∃ Z, Z = step16 S B := ⟨_, rfl⟩
  have H1 := hideIt hZ1
  clear hZ1
  go_enter Try.func4, Try.ntmps4
  go_wp2_with fail
  refine (step16_any S B _ L1.out L2.out).mono ?_
  rintro e w1 ⟨rfl, rfl⟩
  rw [← H1.out]
  go_wp2_with fail
  refine (refStep16_any S B _ L1.out L2.out).mono ?_
  rintro e w2 ⟨rfl, rfl⟩
  rw [← H1.out]
  go_wp2_with fail
  refine (awake_any _).mono ?_
  rintro e w3 ⟨rfl, h3⟩
  have A3 := hideIt h3
  clear h3
  go_wp2
  go_ret
  exact ⟨rfl, A3.out⟩
end Go.Proofs.Ytgdkepanmnmhjaa
