/-
  The array of halves, walked.
-/
import Derived.Test.YtmdbpoknehafaaaHalf
namespace Go.Proofs.Ytmdbpoknehafaaa
open Go.RowKit
set_option maxRecDepth 100000 in
set_option maxHeartbeats 1000000 in
theorem halves16_any (w : World) :
    Calls Try.prog 35 #[] w fun e w' => e = .returned (.agg (sixteen fun i => .int .u16 (h16 i : Nat))) ∧ After w w' := by
  obtain ⟨F, hF⟩ : ∃ F : Nat → Nat, F = h16 := ⟨_, rfl⟩
  have HF : Hid (∀ j, j < 16 → ∃ R : Nat → Nat, R 0 = j * 4096 ∧ (∀ k, t16 (R k) = R (k + 1)) ∧ (∀ k, R k < 65536) ∧ R 4 = F j) := by rw [hF]; exact h16_walk
  rw [← hF]
  clear hF
  go_enter Try.func35, Try.ntmps35
  go_wp2_with fail
  go_loopw [4] (fun i W => ∃ k : Nat, k ≤ 16 ∧ i = .int .u16 k ∧ After (hX .u16 59 F w k) W) (fun i _ => 16 - (intOf i).toNat)
  case atStart => exact ⟨0, by omega, rfl, After.rfl⟩
  case round =>
    obtain ⟨k, hk, rfl, ha⟩ := hrel
    obtain ⟨hcA, hcB, hfA, hfB⟩ := hX_cells ha
    by_cases hkk : k < 16
    · obtain ⟨R, R0, R1, R3, R4⟩ := HF.out k hkk
      have HX := hideIt (hX_store ha hkk)
      have H0 := hideIt R0
      have H1 := hideIt R1
      have H3 := hideIt R3
      have H4 := hideIt R4
      have HA := hideIt ha
      have hck : wr.cell? ⟨w.heap.size + 1, k, none⟩ = some (.int .u16 0) := by
        rw [hcB, sixteen_at _ k hkk]; simp [pl]
      have hfk := hfB k
      have hki : (k : Int) < 16 := by omega
      clear R0 R1 R3 R4 HF ha hcA hfA hcB hfB
      go_wp2_with fail
      go_loop [3, 9] (fun x i => ∃ m : Nat, m ≤ 4 ∧ i = .int .i64 m ∧ x = .int .u16 (R m : Nat)) (fun _ i => 4 - (intOf i).toNat)
      case atStart => exact ⟨0, by omega, rfl, by rw [H0.out]; rfl⟩
      case round =>
        obtain ⟨m, hm, rfl, rfl⟩ := hrel
        by_cases h4 : m < 4
        · go_wp2_with (go_at_call 36; refine (turn16_any _ _ (H3.out m)).mono ?_; rintro e w' ⟨rfl, rfl⟩; rw [H1.out])
          go_round
          case rel => exact ⟨m + 1, by omega, by go_num, rfl⟩
          case measure => simp [intOf]; omega
        · obtain rfl : m = 4 := by omega
          rw [H4.out]
          go_wp2
          go_roundw
          case rel => exact ⟨k + 1, by omega, by go_num, HX.out⟩
          case measure => simp [intOf]; omega
    · obtain rfl : k = 16 := by omega
      rw [pl_all] at hcB
      unfold sixteen at hcA hcB
      go_wp2
      refine bodyPost_ret (v := .agg #[.int .u16 (F 0), .int .u16 (F 1), .int .u16 (F 2), .int .u16 (F 3), .int .u16 (F 4), .int .u16 (F 5), .int .u16 (F 6), .int .u16 (F 7), .int .u16 (F 8), .int .u16 (F 9), .int .u16 (F 10), .int .u16 (F 11), .int .u16 (F 12), .int .u16 (F 13), .int .u16 (F 14), .int .u16 (F 15)]) (by simp [results, Try.results35, go_sem, hcA]) rfl ⟨by unfold sixteen; rfl, ?_⟩
      iterate 16 refine After.set ?_ _ (Nat.le_refl _) _
      exact hX_after ha
end Go.Proofs.Ytmdbpoknehafaaa
