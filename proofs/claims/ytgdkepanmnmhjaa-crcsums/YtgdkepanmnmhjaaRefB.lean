/-
  The document's Sum32.
-/
import Derived.Test.YtgdkepanmnmhjaaSumB
namespace Go.Proofs.Ytgdkepanmnmhjaa
open Go.RowKit
theorem t32_up {z : Nat} (g : z % 2 = 1) (h : z < 4294967296) : bits .xor .i64 ((z : Int) / 2) 3988292384 = ((t32 z : Nat) : Int) := by
  have e2 := i64_xor_nat (z / 2) 3988292384 (by omega) (by omega)
  unfold t32; rw [if_pos g, ← e2]; rfl
theorem t32_dn {z : Nat} (g : ¬ z % 2 = 1) : (z : Int) / 2 = ((t32 z : Nat) : Int) := by
  unfold t32; rw [if_neg g]; rfl
set_option maxRecDepth 100000 in
set_option maxHeartbeats 1000000 in
theorem refSum32_any (a : Option Addr) (n c : Nat) (zs : List Int) (w : World) (hr : Row w a n zs) (hn : n ≤ 140737488355328) :
    Calls Try.prog 13 #[.slice a n c] w fun e w' => e = .returned (.int .u32 (sum32 zs : Nat)) ∧ w' = w := by
  have HR := hideIt hr
  clear hr
  have HN : Hid (∀ k, k ≤ n → fold32 4294967295 (zs.take k) < 4294967296) := fun k _ => fold32_lt (by omega) (HR.out.2.1.take k)
  have HM : Hid (∀ k, k < n → fold32 4294967295 (zs.take (k + 1)) = step32 (fold32 4294967295 (zs.take k)) (zs.getD k 0).toNat) := fun k hk => fold32_more (by rw [HR.out.1]; exact hk)
  obtain ⟨Y, hY⟩ : ∃ Y, Y = fold32 4294967295 zs := ⟨_, rfl⟩
  have HE : Hid (fold32 4294967295 (zs.take n) = Y) := by
    unfold Hid; rw [← HR.out.1, List.take_length, hY]
  have hYl : Y < 4294967296 := by rw [hY]; exact fold32_lt (by omega) HR.out.2.1
  have HY : Hid (4294967295 - (Y : Int) = ((sum32 zs : Nat) : Int)) := by
    unfold Hid sum32; rw [← hY]; omega
  clear hY
  have hz0 : Hid (4294967295 = fold32 4294967295 (zs.take 0)) := by
    unfold Hid; rw [List.take_zero]; exact Eq.refl _
  have hYi : ((Y : Nat) : Int) < 4294967296 := by omega
  clear hYl
  go_enter Try.func13, Try.ntmps13
  go_wp2_with fail
  go_loop [3, 4] (fun s i => ∃ k : Nat, k ≤ n ∧ i = .int .i64 k ∧ s = .int .i64 (fold32 4294967295 (zs.take k) : Nat)) (fun _ i => n - (intOf i).toNat)
  case atStart => exact ⟨0, by omega, rfl, congrArg (fun x : Nat => Value.int .i64 (x : Int)) hz0.out⟩
  case round =>
    obtain ⟨k, hk, rfl, rfl⟩ := hrel
    by_cases hlt : k < n
    · obtain ⟨b, off, x, rfl, hbl, hx, hzx, hcx⟩ := HR.out.at hlt
      have e1 := HM.out k hlt
      rw [hzx, Int.toNat_natCast] at e1
      have hs := HN.out k hk
      obtain ⟨S, hS⟩ : ∃ S, S = fold32 4294967295 (zs.take k) := ⟨_, rfl⟩
      rw [← hS] at e1 hs ⊢
      have hxx : bits .xor .i64 (S : Int) (x : Int) = ((S ^^^ x : Nat) : Int) := i64_xor_nat S x (by omega) (by omega)
      have l := x32 hs (show x < 4294967296 by omega)
      have e8 : rep t32 8 (S ^^^ x) = fold32 4294967295 (zs.take (k + 1)) := by rw [e1]; unfold step32; exact Eq.refl _
      generalize S ^^^ x = y at *
      obtain ⟨R, R0, R1, R2⟩ := rep_walk t32 y
      have R3 : ∀ m, R m < 4294967296 := fun m => by rw [R2]; exact r32_lt m l
      have R8 : R 8 = fold32 4294967295 (zs.take (k + 1)) := by rw [R2, e8]
      have HU : Hid (∀ m, R m % 2 = 1 → bits .xor .i64 ((R m : Int) / 2) 3988292384 = ((R (m + 1) : Nat) : Int)) := fun m g => by rw [R1]; exact t32_up g (R3 m)
      have HD : Hid (∀ m, ¬ R m % 2 = 1 → (R m : Int) / 2 = ((R (m + 1) : Nat) : Int)) := fun m g => by rw [R1]; exact t32_dn g
      have H0 := hideIt R0
      have H3 := hideIt R3
      have H8 := hideIt R8
      have LT : (k : Int) < n := by omega
      clear HR HN HM HE HY hz0 e1 hS hzx e8 R0 R1 R2 R3 R8 hs l hYi
      go_wp2_with fail
      go_loop [3, 5] (fun s i => ∃ m : Nat, m ≤ 8 ∧ i = .int .i64 m ∧ s = .int .i64 (R m : Nat)) (fun _ i => 8 - (intOf i).toNat)
      case atStart => exact ⟨0, by omega, rfl, by rw [H0.out]⟩
      case round =>
        obtain ⟨m, hm, rfl, rfl⟩ := hrel
        have lk := H3.out m
        by_cases h8 : m < 8
        · by_cases g : R m % 2 = 1
          · have e1 := HU.out m g
            have g2 : ((R m : Int) % 2 == 1) = true := by simp; omega
            have hw : wrap64 ((R m : Int) / 2) = (R m : Int) / 2 := by unfold wrap64; omega
            clear g lk
            go_wp2
            go_round
            case rel => exact ⟨m + 1, by omega, by go_num, rfl⟩
            case measure => simp [intOf]; omega
          · have e1 := hideIt (HD.out m g)
            have g2 : ((R m : Int) % 2 == 1) = false := by simp; omega
            have hw : wrap64 ((R m : Int) / 2) = (R m : Int) / 2 := by unfold wrap64; omega
            clear g lk
            go_wp2
            go_round
            case rel => exact ⟨m + 1, by omega, by go_num, by rw [e1.out] at hw ⊢; rw [hw]⟩
            case measure => simp [intOf]; omega
        · obtain rfl : m = 8 := by omega
          rw [H8.out] at *
          clear lk H8 HU HD H0 H3
          go_wp2
          go_round
          case rel => exact ⟨k + 1, by omega, by go_num, rfl⟩
          case measure => simp [intOf]; omega
    · obtain rfl : k = n := by omega
      rw [HE.out]
      go_wp2
      go_ret
      exact ⟨ret_int HY.out, rfl⟩
end Go.Proofs.Ytgdkepanmnmhjaa
