/-
  Sum32 of package crc.
-/
import Derived.Test.YtgdkepanmnmhjaaSum
namespace Go.Proofs.Ytgdkepanmnmhjaa
open Go.RowKit
theorem all_xor (z : Nat) (h : z < 4294967296) : 4294967295 ^^^ z = 4294967295 - z := by
  have e := congrArg BitVec.toNat (BitVec.allOnes_xor (x := BitVec.ofNat 32 z))
  rw [BitVec.toNat_xor, BitVec.toNat_not, BitVec.toNat_allOnes, BitVec.toNat_ofNat, Nat.mod_eq_of_lt (by omega)] at e
  exact e
theorem not32 (z : Nat) (h : z < 4294967296) : bits .xor .u32 IntKind.u32.max (z : Int) = ((4294967295 - z : Nat) : Int) := by
  have e := u32_xor_nat 4294967295 z (by omega) h
  rw [all_xor z h] at e
  rw [← e]; rfl
set_option maxRecDepth 100000 in
set_option maxHeartbeats 1000000 in
theorem sum32_any (a : Option Addr) (n c : Nat) (zs : List Int) (w : World) (hr : Row w a n zs) (hn : n ≤ 140737488355328) :
    Calls Try.prog 12 #[.slice a n c] w fun e w' => e = .returned (.int .u32 (sum32 zs : Nat)) ∧ After w w' := by
  obtain ⟨F, hF⟩ : ∃ F : Nat → Nat, F = h32 := ⟨_, rfl⟩
  have C := hideIt halves32_any
  rw [← hF] at C
  have HF := hideIt hF
  have HR := hideIt hr
  clear hF hr
  have HN : Hid (∀ k, k ≤ n → fold32 4294967295 (zs.take k) < 4294967296) := fun k _ => fold32_lt (by omega) (HR.out.2.1.take k)
  have HM : Hid (∀ k, k < n → fold32 4294967295 (zs.take (k + 1)) = step32 (fold32 4294967295 (zs.take k)) (zs.getD k 0).toNat) := fun k hk => fold32_more (by rw [HR.out.1]; exact hk)
  obtain ⟨Y, hY⟩ : ∃ Y, Y = fold32 4294967295 zs := ⟨_, rfl⟩
  have HE : Hid (fold32 4294967295 (zs.take n) = Y) := by
    unfold Hid; rw [← HR.out.1, List.take_length, hY]
  have HY : Hid (bits .xor .u32 IntKind.u32.max (Y : Int) = ((sum32 zs : Nat) : Int)) := by
    unfold Hid sum32; rw [← hY]
    exact not32 Y (by rw [hY]; exact fold32_lt (by omega) HR.out.2.1)
  clear hY
  have hz0 : Hid (4294967295 = fold32 4294967295 (zs.take 0)) := by
    unfold Hid; rw [List.take_zero]; exact Eq.refl _
  generalize sum32 zs = Z at *
  go_enter Try.func12, Try.ntmps12
  go_wp2_with (go_at_call 21; refine (C.out _).mono ?_; rintro e w1 ⟨rfl, ha⟩; unfold sixteen)
  go_loopw [4, 10] (fun s i W => ∃ k : Nat, k ≤ n ∧ i = .int .i64 k ∧ s = .int .u32 (fold32 4294967295 (zs.take k) : Nat) ∧ After (sX .u32 40 F w1) W) (fun _ i _ => n - (intOf i).toNat)
  case atStart => exact ⟨0, by omega, rfl, congrArg (fun x : Nat => Value.int .u32 (x : Int)) hz0.out, After.rfl⟩
  case round =>
    obtain ⟨k, hk, rfl, rfl, hX⟩ := hrel
    have hA : After w wr := (ha.alloc _).trans hX
    by_cases hlt : k < n
    · obtain ⟨b, off, x, rfl, hbl, hx, hzx, hcx⟩ := (HR.out.after hA).at hlt
      have e1 := HM.out k hlt
      rw [hzx, Int.toNat_natCast] at e1
      have hs := HN.out k hk
      obtain ⟨S, hS⟩ : ∃ S, S = fold32 4294967295 (zs.take k) := ⟨_, rfl⟩
      rw [← hS] at e1 hs ⊢
      have E1 := hideIt e1
      obtain ⟨j1, p1, j2, p2, l1, l2, a1, a2, a3, a4, a5, a6, a7, lp, ep⟩ := round32 F HF.out hs hx
      have hc1 : wr.cell? ⟨w1.heap.size, j1, none⟩ = some (.int .u32 (F j1)) := by
        rw [hX.cell.1 _ _ (by simp [sX])]; exact sX_cell _ _ _ _ _ l1
      have hc2 : wr.cell? ⟨w1.heap.size, j2, none⟩ = some (.int .u32 (F j2)) := by
        rw [hX.cell.1 _ _ (by simp [sX])]; exact sX_cell _ _ _ _ _ l2
      have EP := hideIt ep
      have HX := hideIt hX
      have i1 : (j1 : Int) < 16 := by omega
      have i2 : (j2 : Int) < 16 := by omega
      clear C HF HR HN HM HE hz0 ha hX hA e1 hS hzx ep
      go_wp2
      go_roundw
      case rel => exact ⟨k + 1, by omega, by go_num, by rw [E1.out, ← EP.out], HX.out⟩
      case measure => simp [intOf]; omega
    · obtain rfl : k = n := by omega
      rw [HE.out]
      go_wp2
      go_ret
      exact ⟨ret_int HY.out, hA⟩
end Go.Proofs.Ytgdkepanmnmhjaa
