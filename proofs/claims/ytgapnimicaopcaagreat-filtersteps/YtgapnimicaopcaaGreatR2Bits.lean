/-
  Bits of whole numbers with signs: a mask is a remainder, and a number below the shift goes beside what was shifted.
-/
import Derived.Test.YtgapnimicaopcaaGreatR2May
namespace Go.Proofs.YtgapnimicaopcaaGreat.L2
open Go.RowKit
theorem ofInt_nat (a : Int) : (BitVec.ofInt 64 a).toNat = (a % 18446744073709551616).toNat := by rw [BitVec.toNat_ofInt]; rfl
theorem wrap64_def (z : Int) : IntKind.i64.wrap z = (z + 9223372036854775808) % 18446744073709551616 - 9223372036854775808 := by
  simp [IntKind.wrap, IntKind.signed, IntKind.bits]; omega
theorem and_mask (a : Int) (M : Nat) (n : Nat) (hn : n ≤ 40) (hM : M = 2 ^ n - 1) : bits .and .i64 a (M : Int) = a % ((2 ^ n : Nat) : Int) := by
  have hp : 2 ^ n ≤ 2 ^ 40 := Nat.pow_le_pow_right (by omega) hn
  have h40 : (2 : Nat) ^ 40 = 1099511627776 := by decide
  have h0 : 0 < 2 ^ n := Nat.two_pow_pos n
  show IntKind.i64.wrap (((BitVec.ofInt 64 a &&& BitVec.ofInt 64 (M : Int)).toNat : Nat) : Int) = _
  rw [BitVec.toNat_and, ofInt_nat, ofInt_nat]
  have e2 : ((M : Int) % 18446744073709551616).toNat = 2 ^ n - 1 := by omega
  rw [e2, Nat.and_two_pow_sub_one_eq_mod, wrap64_def]
  have e3 : (((a % 18446744073709551616).toNat % 2 ^ n : Nat) : Int) = a % ((2 ^ n : Nat) : Int) := by
    rw [Int.natCast_emod, Int.toNat_of_nonneg (by omega)]
    refine Int.emod_emod_of_dvd a ?_
    have : (18446744073709551616 : Int) = ((2 ^ 64 : Nat) : Int) := by decide
    rw [this]
    exact Int.natCast_dvd_natCast.2 (Nat.pow_dvd_pow 2 (by omega))
  rw [e3]
  have b1 := Int.emod_nonneg a (show ((2 ^ n : Nat) : Int) ≠ 0 by omega)
  have b2 := Int.emod_lt_of_pos a (show 0 < ((2 ^ n : Nat) : Int) by omega)
  omega
theorem or_low (e b : Int) (n : Nat) (hn : n ≤ 24) (h1 : -256 ≤ e) (h2 : e ≤ 256) (h3 : 0 ≤ b) (h4 : b < ((2 ^ n : Nat) : Int)) : bits .or .i64 (e * ((2 ^ n : Nat) : Int)) b = e * ((2 ^ n : Nat) : Int) + b := by
  have hp : 2 ^ n ≤ 2 ^ 24 := Nat.pow_le_pow_right (by omega) hn
  have h24 : (2 : Nat) ^ 24 = 16777216 := by decide
  have h0 : 0 < 2 ^ n := Nat.two_pow_pos n
  show IntKind.i64.wrap (((BitVec.ofInt 64 (e * ((2 ^ n : Nat) : Int)) ||| BitVec.ofInt 64 b).toNat : Nat) : Int) = _
  rw [BitVec.toNat_or, ofInt_nat, ofInt_nat]
  have e2 : (b % 18446744073709551616).toNat = b.toNat := by omega
  have hlo : -256 * ((2 ^ n : Nat) : Int) ≤ e * ((2 ^ n : Nat) : Int) := Int.mul_le_mul_of_nonneg_right h1 (by omega)
  have hhi : e * ((2 ^ n : Nat) : Int) ≤ 256 * ((2 ^ n : Nat) : Int) := Int.mul_le_mul_of_nonneg_right h2 (by omega)
  have h64 : (18446744073709551616 : Int) = ((2 ^ (64 - n) : Nat) : Int) * ((2 ^ n : Nat) : Int) := by
    rw [← Int.natCast_mul, ← Nat.pow_add, show 64 - n + n = 64 by omega]; decide
  obtain ⟨A, hA⟩ : ∃ A : Nat, (e * ((2 ^ n : Nat) : Int) % 18446744073709551616).toNat = 2 ^ n * A := by
    refine ⟨(e % ((2 ^ (64 - n) : Nat) : Int)).toNat, ?_⟩
    rw [h64, Int.mul_comm e, Int.mul_comm ((2 ^ (64 - n) : Nat) : Int), Int.mul_emod_mul_of_pos _ _ (by omega)]
    have : 0 ≤ e % ((2 ^ (64 - n) : Nat) : Int) := Int.emod_nonneg _ (by have := Nat.two_pow_pos (64 - n); omega)
    generalize e % ((2 ^ (64 - n) : Nat) : Int) = x at *
    obtain ⟨y, rfl⟩ := Int.eq_ofNat_of_zero_le this
    rw [← Int.natCast_mul, Int.toNat_natCast, Int.toNat_natCast]
  rw [e2, hA, ← Nat.two_pow_add_eq_or_of_lt (by omega : b.toNat < 2 ^ n), wrap64_def, ← hA]
  omega
theorem and_4095 (a : Int) : bits .and .i64 a 4095 = a % 4096 := and_mask a 4095 12 (by omega) (by decide)
theorem and_24 (a : Int) : bits .and .i64 a 16777215 = a % 16777216 := and_mask a 16777215 24 (by omega) (by decide)
theorem or_12 (e b : Int) (h1 : -256 ≤ e) (h2 : e ≤ 256) (h3 : 0 ≤ b) (h4 : b < 4096) : bits .or .i64 (e * 4096) b = e * 4096 + b := or_low e b 12 (by omega) h1 h2 h3 (by simpa using h4)
theorem or_24 (e b : Int) (h1 : -256 ≤ e) (h2 : e ≤ 256) (h3 : 0 ≤ b) (h4 : b < 16777216) : bits .or .i64 (e * 16777216) b = e * 16777216 + b := or_low e b 24 (by omega) h1 h2 h3 (by simpa using h4)
theorem u16_wrap (z : Int) : IntKind.u16.wrap z = z % 65536 := rfl
theorem u32_wrap (z : Int) : IntKind.u32.wrap z = z % 4294967296 := rfl
end Go.Proofs.YtgapnimicaopcaaGreat.L2
