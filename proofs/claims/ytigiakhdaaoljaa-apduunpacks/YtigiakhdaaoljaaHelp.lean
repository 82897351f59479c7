/-
  The statements' helpers: EqBytes, Bring.
-/
import Derived.Test.YtigiakhdaaoljaaPure
namespace Go.Proofs.Ytigiakhdaaoljaa
open Go.RowKit
set_option maxRecDepth 100000 in
set_option maxHeartbeats 400000 in
theorem eqBytes_same (a a' : Option Addr) (n c c' : Nat) (zs : List Int) (w : World) (h1 : Row w a n zs) (h2 : Row w a' n zs) (hn : n ≤ 140737488355328) :
    Calls Try.prog 12 #[.slice a n c, .slice a' n c'] w fun e w' => e = .returned (.bool true) ∧ After w w' := by
  have H1 := hideIt h1
  have H2 := hideIt h2
  clear h1 h2
  go_enter Try.func12, Try.ntmps12
  go_wp2
  go_loopw [5] (fun i wr => ∃ k m : Nat, k ≤ n ∧ i = .int .i64 k ∧ wr = w.drewN m) (fun i _ => n - (intOf i).toNat)
  case atStart => exact ⟨0, 0, Nat.zero_le _, rfl, rfl⟩
  case round =>
    obtain ⟨k, m, hk, rfl, rfl⟩ := hrel
    by_cases hlt : k < n
    · obtain ⟨b1, o1, x1, rfl, _, l1, e1, c1⟩ := H1.out.at hlt
      obtain ⟨b2, o2, x2, rfl, _, l2, e2, c2⟩ := H2.out.at hlt
      obtain rfl : x1 = x2 := by omega
      clear l1 e1 l2 e2
      go_wp2
      go_region
      go_wp2
      go_roundw
      case rel => exact ⟨k + 1, m + 1, by omega, by go_num, rfl⟩
      case measure => simp [intOf]; omega
    · go_wp2
      go_ret
      exact ⟨rfl, After.rfl.draws m⟩
end Go.Proofs.Ytigiakhdaaoljaa
