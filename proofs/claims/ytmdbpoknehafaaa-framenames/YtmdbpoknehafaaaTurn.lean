/-
  Bits, and the turns of package crc.
-/
import Derived.Laws.BitsAllLaws
import Derived.Test.YtmdbpoknehafaaaPure
namespace Go.Proofs.Ytmdbpoknehafaaa
open Go.RowKit
theorem wrap64_id (n : Nat) (h : n < 9223372036854775808) : IntKind.i64.wrap (n : Int) = (n : Int) := by
  simp [IntKind.wrap, IntKind.signed, IntKind.bits]; omega
theorem i64_xor_nat (a b : Nat) (ha : a < 9223372036854775808) (hb : b < 9223372036854775808) : bits .xor .i64 (a : Int) (b : Int) = ((a ^^^ b : Nat) : Int) := by
  have hx : a ^^^ b < 2 ^ 63 := Nat.xor_lt_two_pow (n := 63) (by omega) (by omega)
  have e63 : (2 : Nat) ^ 63 = 9223372036854775808 := by decide
  show IntKind.i64.wrap (((BitVec.ofInt 64 (a : Int) ^^^ BitVec.ofInt 64 (b : Int)).toNat : Nat) : Int) = _
  have o1 : (BitVec.ofInt 64 (a : Int)).toNat = a := ofInt_u64 a (by omega)
  have o2 : (BitVec.ofInt 64 (b : Int)).toNat = b := ofInt_u64 b (by omega)
  rw [BitVec.toNat_xor, o1, o2]
  exact wrap64_id _ (by omega)
theorem shl16 (n k : Nat) : IntKind.u16.wrap ((n : Int) * (k : Int)) = ((n * k % 65536 : Nat) : Int) := by
  rw [IntKind.wrap_u16]; simp
theorem and1 (n : Nat) (h : n < 4294967296) : bits .and .u32 (n : Int) 1 = ((n % 2 : Nat) : Int) := by
  have := u32_and_nat n 1 h (by decide)
  rw [Nat.and_one_is_mod] at this
  exact this
theorem and15 (n : Nat) (h : n < 4294967296) : bits .and .u32 (n : Int) 15 = ((n % 16 : Nat) : Int) := by
  have := u32_and_nat n 15 h (by decide)
  have e : n &&& 15 = n % 16 := Nat.and_two_pow_sub_one_eq_mod n 4
  rw [e] at this
  exact this
theorem and15b (n : Nat) (h : n < 256) : bits .and .u8 (n : Int) 15 = ((n % 16 : Nat) : Int) := by
  have := u8_and_nat n 15 h (by decide)
  have e : n &&& 15 = n % 16 := Nat.and_two_pow_sub_one_eq_mod n 4
  rw [e] at this
  exact this
theorem turn16_any (n : Nat) (w : World) (h : n < 65536) :
    Calls Try.prog 36 #[.int .u16 n] w fun e w' => e = .returned (.int .u16 (t16 n : Nat)) ∧ w' = w := by
  by_cases g : 32768 ≤ n
  · have hd : ((n : Int) / 32768 == 1) = true := by simp; omega
    have hx : bits .xor .u16 (IntKind.u16.wrap ((n : Int) * 2)) 4129 = ((t16 n : Nat) : Int) := by
      have e1 := shl16 n 2
      have e2 := u16_xor_nat (n * 2 % 65536) 4129 (by omega) (by omega)
      have e3 : t16 n = n * 2 % 65536 ^^^ 4129 := by
        have e4 : 2 * n - 65536 = n * 2 % 65536 := by omega
        unfold t16; rw [if_pos g, e4]
      rw [e3, ← e2, ← e1]; rfl
    have HX := hideIt hx
    clear hx
    go_enter Try.func36, Try.ntmps36
    go_wp2
    go_ret
    exact ⟨ret_int HX.out, rfl⟩
  · have hd : ((n : Int) / 32768 == 1) = false := by simp; omega
    have hx : (n : Int) * 2 = ((t16 n : Nat) : Int) := by
      have e3 : t16 n = n * 2 := by
        have e4 : 2 * n = n * 2 := by omega
        unfold t16; rw [if_neg g, ← e4]
      rw [e3]; rfl
    have HX := hideIt hx
    clear hx
    go_enter Try.func36, Try.ntmps36
    go_wp2
    go_ret
    exact ⟨ret_int HX.out, rfl⟩
end Go.Proofs.Ytmdbpoknehafaaa
