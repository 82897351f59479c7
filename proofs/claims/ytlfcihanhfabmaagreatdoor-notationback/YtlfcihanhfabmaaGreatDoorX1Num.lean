/-
  The contracts of the numeric calls of package fixed and of the document's answers: what each call answers, and that the world stands (but for draws).
-/
import Derived.Test.YtlfcihanhfabmaaGreatDoorRows
import Derived.Test.YtlfcihanhfabmaaGreatDoorX1Pure
import Derived.WalkKit
import Derived.WalkSpells
import Derived.WalkLawsBesides
namespace Go.Proofs.YtlfcihanhfabmaaGreatDoor.L1
open Go.RowKit
set_option maxRecDepth 8000
theorem ret_int {k : IntKind} {a b : Int} (h : a = b) : Ending.returned (.int k a) = .returned (.int k b) := by rw [h]
set_option maxHeartbeats 400000 in
theorem clamp_any (a : Int) (w : World) :
    Calls Tryz.prog 92 #[.int .i64 a] w fun e w' => e = .returned (.int .i64 (cl a)) ∧ w' = w := by
  have hc : cl a = if a < -2147483647 then -2147483647 else if 2147483647 < a then 2147483647 else a := rfl
  by_cases h1 : a < -2147483647
  · rw [if_pos h1] at hc
    rw [hc]; clear hc
    go_enter Tryz.func92, Tryz.ntmps92
    go_wp2
    go_ret
    exact ⟨rfl, rfl⟩
  · rw [if_neg h1] at hc
    by_cases h2 : 2147483647 < a
    · rw [if_pos h2] at hc
      rw [hc]; clear hc
      go_enter Tryz.func92, Tryz.ntmps92
      go_wp2
      go_ret
      exact ⟨rfl, rfl⟩
    · rw [if_neg h2] at hc
      rw [hc]; clear hc
      go_enter Tryz.func92, Tryz.ntmps92
      go_wp2
      go_ret
      exact ⟨rfl, rfl⟩
set_option maxHeartbeats 400000 in
theorem refClamp_any (a : Int) (w : World) :
    Calls Tryz.prog 70 #[.int .i64 a] w fun e w' => e = .returned (.int .i64 (cl a)) ∧ w' = w := by
  go_enter Tryz.func70, Tryz.ntmps70
  go_wp2
  all_goals go_ret
  all_goals exact ⟨ret_int (by unfold cl; split <;> (try split) <;> (try omega)), rfl⟩
set_option maxHeartbeats 400000 in
theorem size_any (a : Int) (w : World) (h1 : -4611686018427387904 ≤ a) (h2 : a ≤ 4611686018427387904) :
    Calls Tryz.prog 93 #[.int .i64 a] w fun e w' => e = .returned (.int .i64 (ab a)) ∧ w' = w := by
  go_enter Tryz.func93, Tryz.ntmps93
  go_wp2
  all_goals go_ret
  all_goals exact ⟨ret_int (by rw [ab_def]; omega), rfl⟩
theorem tdiv_bd (a b : Int) (h1 : -4611686014132420609 ≤ a) (h2 : a ≤ 4611686014132420609) : -4611686014132420609 ≤ a.tdiv b ∧ a.tdiv b ≤ 4611686014132420609 := by
  have h := Int.natAbs_tdiv a b
  have h' : a.natAbs.div b.natAbs ≤ a.natAbs := Nat.div_le_self _ _
  omega
theorem wrap_q (a b : Int) (h1 : -4611686014132420609 ≤ a) (h2 : a ≤ 4611686014132420609) : wrap64 (a.tdiv b) = a.tdiv b := by
  have := tdiv_bd a b h1 h2
  unfold wrap64; omega
theorem tmod_bd (a b : Int) (hb : b ≠ 0) : -(b.natAbs : Int) < a.tmod b ∧ a.tmod b < b.natAbs := by
  have h1 := Int.natAbs_tmod a b
  have h2 : a.natAbs % b.natAbs < b.natAbs := Nat.mod_lt _ (by omega)
  omega
/-- What the walk of 'over' wants of a quotient and its rest. -/
theorem quo_facts (n d : Int) (hn : 0 ≤ n) (h2 : n ≤ 4611686014132420609) (hd : 0 < d) (h4 : d ≤ 2147483647) : 0 ≤ n / d ∧ n / d ≤ 4611686014132420609 ∧ 0 ≤ n % d ∧ n % d ≤ 2147483647 := by
  have a1 := Int.ediv_nonneg hn (show 0 ≤ d by omega)
  have a2 := Int.ediv_le_self d hn
  have a3 := Int.emod_nonneg n (show d ≠ 0 by omega)
  have a4 := Int.emod_lt_of_pos n hd
  omega
end Go.Proofs.YtlfcihanhfabmaaGreatDoor.L1
