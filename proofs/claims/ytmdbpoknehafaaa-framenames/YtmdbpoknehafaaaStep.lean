/-
  Step16 of package crc, and the document's.
-/
import Derived.Test.YtmdbpoknehafaaaTurn
namespace Go.Proofs.Ytmdbpoknehafaaa
open Go.RowKit
theorem t16_up {z : Nat} (g : 32768 ≤ z) (h : z < 65536) : bits .xor .i64 ((z : Int) * 2 - 65536) 4129 = ((t16 z : Nat) : Int) := by
  have e2 := i64_xor_nat (2 * z - 65536) 4129 (by omega) (by omega)
  have e3 : ((2 * z - 65536 : Nat) : Int) = (z : Int) * 2 - 65536 := by omega
  rw [e3] at e2
  unfold t16; rw [if_pos g, ← e2]; rfl
theorem t16_dn {z : Nat} (g : ¬ 32768 ≤ z) : (z : Int) * 2 = ((t16 z : Nat) : Int) := by
  unfold t16; rw [if_neg g]; omega
theorem rep_walk (f : Nat → Nat) (y : Nat) : ∃ R : Nat → Nat, R 0 = y ∧ (∀ k, R (k + 1) = f (R k)) ∧ ∀ k, R k = rep f k y := ⟨fun k => rep f k y, rfl, fun _ => rfl, fun _ => rfl⟩
theorem refStep16_any (s b : Nat) (w : World) (hs : s < 65536) (hb : b < 256) :
    Calls Try.prog 34 #[.int .u16 s, .int .u8 b] w fun e w' => e = .returned (.int .u16 (step16 s b : Nat)) ∧ w' = w := by
  have hx : bits .xor .i64 (s : Int) ((b : Int) * 256) = ((s ^^^ b * 256 : Nat) : Int) := by
    rw [← i64_xor_nat s (b * 256) (by omega) (by omega)]; rfl
  have l := x16 hs (show b * 256 < 65536 by omega)
  have e8 : rep t16 8 (s ^^^ b * 256) = step16 s b := by unfold step16; exact Eq.refl _
  generalize step16 s b = Z at *
  generalize s ^^^ b * 256 = y at *
  obtain ⟨R, R0, R1, R2⟩ := rep_walk t16 y
  have R3 : ∀ k, R k < 65536 := fun k => by rw [R2]; exact r16_lt k l
  have R8 : R 8 = Z := by rw [R2, e8]
  have HU : Hid (∀ k, 32768 ≤ R k → bits .xor .i64 ((R k : Int) * 2 - 65536) 4129 = ((R (k + 1) : Nat) : Int)) := fun k g => by rw [R1]; exact t16_up g (R3 k)
  have HD : Hid (∀ k, ¬ 32768 ≤ R k → (R k : Int) * 2 = ((R (k + 1) : Nat) : Int)) := fun k g => by rw [R1]; exact t16_dn g
  have H0 := hideIt R0
  have H3 := hideIt R3
  have H8 := hideIt R8
  clear e8 R0 R1 R2 R3 R8
  go_enter Try.func34, Try.ntmps34
  go_wp2_with fail
  go_loop [5, 6] (fun x i => ∃ k : Nat, k ≤ 8 ∧ i = .int .i64 k ∧ x = .int .i64 (R k : Nat)) (fun _ i => 8 - (intOf i).toNat)
  case atStart => exact ⟨0, by omega, rfl, by rw [H0.out]⟩
  case round =>
    obtain ⟨k, hk, rfl, rfl⟩ := hrel
    have lk := H3.out k
    by_cases h8 : k < 8
    · by_cases g : 32768 ≤ R k
      · have e1 := HU.out k g
        have g2 : (32768 : Int) ≤ ((R k : Nat) : Int) := by omega
        clear g
        go_wp2
        go_round
        case rel => exact ⟨k + 1, by omega, by go_num, rfl⟩
        case measure => simp [intOf]; omega
      · have e1 := hideIt (HD.out k g)
        have g2 : ¬ (32768 : Int) ≤ ((R k : Nat) : Int) := by omega
        clear g
        go_wp2
        go_round
        case rel => exact ⟨k + 1, by omega, by go_num, by rw [e1.out]⟩
        case measure => simp [intOf]; omega
    · obtain rfl : k = 8 := by omega
      rw [H8.out] at *
      go_wp2
      go_ret
      exact ⟨rfl, rfl⟩
end Go.Proofs.Ytmdbpoknehafaaa
