/-
  The walk of RealOf: Of answers as the document says, of all numbers.
-/
import Derived.Test.YtjblckljbgelaaaWorks
import Derived.Deep.RegionHeld3
import Derived.Deep.DrawnRows
namespace Go.Proofs.Ytjblckljbgelaaa
open Go.RowKit
attribute [local go_sem ↓] Go.wp_at_zero Go.wp_at_succ
set_option maxHeartbeats 4000000 in
theorem lawOf_walk (v : Int) (_h1 : -9223372036854775808 ≤ v) (_h2 : v ≤ 9223372036854775807) (w : World) :
    Calls Try.prog 5 #[.int .i64 v] w fun e w' => e = .returned (.bool true) ∧ After w w' := by
  go_enter Try.func5, Try.ntmps5
  go_wp2_with fail
  go_loopw [3] (fun i W => ∃ k : Int, 0 ≤ k ∧ k ≤ 70 ∧ i = .int .i64 k ∧ After w W) (fun i _ => (70 - intOf i).toNat)
  case atStart => exact ⟨0, by omega, by omega, rfl, After.rfl⟩
  case round =>
    obtain ⟨k, hk0, hk, rfl, hA⟩ := hrel
    by_cases hlt : k < 64
    · go_wp2_with fail
      go_region_held3 (fun W => After w W) (first | exact hA | exact hA.drew | exact (hA.drew).trans h19 | exact ((hA.drew).trans h19).trans h20 | exact After.trans (by assumption) h20 | exact After.trans (by assumption) h19 | assumption)
        (first
          | (go_at_call 19; refine (of_any _ _).mono ?_; rintro e' w3 ⟨rfl, h19⟩)
          | (go_at_call 20; refine (refOf_any _ _).mono ?_; rintro e' w4 ⟨rfl, h20⟩))
      have hB : After w w4 := ((After.draws hA 1).trans h19).trans h20
      go_wp2
      go_roundw
      case rel => exact ⟨k + 7, by omega, by omega, rfl, hB⟩
      case measure => simp [intOf]; omega
    · go_wp2_with fail
      refine (works_any _).mono ?_
      rintro e' w1 ⟨rfl, A1⟩
      go_wp2
      go_ret
      exact ⟨rfl, hA.trans A1⟩
end Go.Proofs.Ytjblckljbgelaaa
