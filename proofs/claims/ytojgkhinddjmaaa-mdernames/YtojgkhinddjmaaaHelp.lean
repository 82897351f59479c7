/-
  The statements' helpers: EqBytes, Bring.
-/
import Derived.Test.YtojgkhinddjmaaaPure
namespace Go.Proofs.Ytojgkhinddjmaaa
open Go.RowKit
set_option maxRecDepth 100000 in
set_option maxHeartbeats 400000 in
theorem eqBytes_same (a a' : Option Addr) (n c c' : Nat) (zs : List Int) (w : World) (h1 : Row w a n zs) (h2 : Row w a' n zs) (hn : n ≤ 140737488355328) :
    Calls Try.prog 20 #[.slice a n c, .slice a' n c'] w fun e w' => e = .returned (.bool true) ∧ After w w' := by
  have H1 := hideIt h1
  have H2 := hideIt h2
  clear h1 h2
  go_enter Try.func20, Try.ntmps20
  go_wp2
  go_loopw [5] (fun i wr => ∃ k m : Nat, k ≤ n ∧ i = .int .i64 k ∧ wr = w.drewN m) (fun i _ => n - (intOf i).toNat)
  case atStart => exact ⟨0, 0, Nat.zero_le _, rfl, rfl⟩
  case round =>
    obtain ⟨k, m, hk, rfl, rfl⟩ := hrel
    by_cases hlt : k < n
    · obtain ⟨b1, o1, x1, rfl, _, l1, e1, c1⟩ := H1.out.at hlt
      obtain ⟨b2, o2, x2, rfl, _, l2, e2, c2⟩ := H2.out.at hlt
      obtain rfl : x1 = x2 := by omega
      clear l1 e1 l2 e2
      go_wp2
      go_region
      go_wp2
      go_roundw
      case rel => exact ⟨k + 1, m + 1, by omega, by go_num, rfl⟩
      case measure => simp [intOf]; omega
    · go_wp2
      go_ret
      exact ⟨rfl, After.rfl.draws m⟩
/-- A kind of call. -/
def kindOf (i : Int) : Nat := (i % 4).toNat
theorem kindOf_lt (i : Int) : kindOf i < 4 := by unfold kindOf; omega
theorem bring_any (i : Int) (w : World) (_h1 : -9223372036854775808 ≤ i) (_h2 : i ≤ 9223372036854775807) :
    Calls Try.prog 11 #[.int .i64 i, .int .i64 4] w fun e w' => e = .returned (.int .i64 (kindOf i)) ∧ w' = w := by
  have b1 := Int.lt_tmod_of_pos i (show (0 : Int) < 4 by omega)
  have b2 := Int.tmod_lt_of_pos i (show (0 : Int) < 4 by omega)
  have e1 : i.tmod 4 = i % 4 ∨ i.tmod 4 = i % 4 - 4 := by
    have := Int.emod_add_mul_ediv i 4
    have := Int.tmod_add_mul_tdiv i 4
    omega
  have HK := hideIt (show (kindOf i : Int) = i % 4 by unfold kindOf; omega)
  have HE := hideIt e1
  clear e1
  go_enter Try.func11, Try.ntmps11
  go_wp2
  all_goals go_ret
  · exact ⟨ret_int (by have := HK.out; have := HE.out; first | omega | (unfold wrap64; omega)), rfl⟩
  · exact ⟨ret_int (by have := HK.out; have := HE.out; omega), rfl⟩
end Go.Proofs.Ytojgkhinddjmaaa
