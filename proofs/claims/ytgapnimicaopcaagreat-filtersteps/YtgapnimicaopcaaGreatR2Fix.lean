/-
  power, Fixed and thousandths: what they answer.
-/
import Derived.Test.YtgapnimicaopcaaGreatR2FixP
import Derived.Test.YtgapnimicaopcaaGreatR2Num
import Derived.Deep.QuietTactic
import Derived.BigQuiet
namespace Go.Proofs.YtgapnimicaopcaaGreat.L2
open Go.RowKit
theorem ret_ib {a a' : Int} {b : Bool} (h : a = a') : Ending.returned (.tuple #[.int .i64 a, .bool b]) = .returned (.tuple #[.int .i64 a', .bool b]) := by rw [h]
theorem power_any (n : Int) (w : World) :
    Calls Tryz.prog 56 #[.int .i64 n] w fun x w' => x = .returned (.int .i64 (pw n)) ∧ w' = w := by
  by_cases hn : n ≤ 10
  · have hp : pw n = tp n.toNat := by unfold pw; rw [show (min n 10).toNat = n.toNat by omega]
    rw [hp]; clear hp
    go_enter Tryz.func56, Tryz.ntmps56
    go_wp2
    go_loop [3, 6] (fun p i => ∃ k : Nat, (k = 0 ∨ (k : Int) ≤ n) ∧ i = .int .i64 k ∧ p = .int .i64 (tp k)) (fun _ i => (n - intOf i).toNat)
    case atStart => exact ⟨0, Or.inl rfl, rfl, rfl⟩
    case round =>
      obtain ⟨k, hk, rfl, rfl⟩ := hrel
      by_cases hlt : (k : Int) < n
      · have b1 := tp_pos k
        have b2 := tp_le9 (k := k) (by omega)
        have HS := hideIt (tp_succ k)
        go_wp2
        go_round
        case rel => exact ⟨k + 1, by omega, by go_num, by rw [HS.out]⟩
        case measure => simp [intOf]; omega
      · go_wp2
        go_ret
        exact ⟨ret_int (by congr 1; omega), rfl⟩
  · have hp : pw n = tp 10 := by unfold pw; rw [show (min n 10).toNat = 10 by omega]
    rw [hp]; clear hp
    go_enter Tryz.func56, Tryz.ntmps56
    go_wp2
    go_loop [3, 6] (fun p i => ∃ k : Nat, k ≤ 10 ∧ i = .int .i64 k ∧ p = .int .i64 (tp k)) (fun _ i => (10 - intOf i).toNat)
    case atStart => exact ⟨0, by omega, rfl, rfl⟩
    case round =>
      obtain ⟨k, hk, rfl, rfl⟩ := hrel
      by_cases hlt : (k : Int) < 10
      · have b1 := tp_pos k
        have b2 := tp_le9 (k := k) (by omega)
        have HS := hideIt (tp_succ k)
        go_wp2
        go_round
        case rel => exact ⟨k + 1, by omega, by go_num, by rw [HS.out]⟩
        case measure => simp [intOf]; omega
      · go_wp2
        go_ret
        exact ⟨ret_int (by congr 1; omega), rfl⟩
theorem fixed_no (k m e : Int) (w : World) (hn : numB k m e = false) :
    Calls Tryz.prog 40 #[.agg #[.int .i64 k, .int .i64 m, .int .i64 e]] w fun x w' => x = .returned (.tuple #[.int .i64 0, .bool false]) ∧ After w w' := by
  go_enter Tryz.func40, Tryz.ntmps40
  go_wp2_with (go_at_call 55; refine (isNumber_any _ _ _ _).mono ?_; rintro e w1 ⟨rfl, ha⟩; obtain ⟨hc, hf⟩ := ha.cell; rw [hn])
  go_ret2
  exact ⟨rfl, (After.rfl.alloc _).trans ha⟩
theorem fixed_yes (k m e : Int) (w : World) (hn : numB k m e = true) (h1 : -128 ≤ e) (h2 : e ≤ 127) :
    Calls Tryz.prog 40 #[.agg #[.int .i64 k, .int .i64 m, .int .i64 e]] w fun x w' => x = .returned (.tuple #[.int .i64 (fixZ m e), .bool true]) ∧ After w w' := by
  have hF : scaleZ m (pw (e + 3)) (pw (-3 - e)) = fixZ m e := rfl
  have HF := hideIt hF
  clear hF
  go_enter Tryz.func40, Tryz.ntmps40
  go_wp2_with (go_at_call 55; refine (isNumber_any _ _ _ _).mono ?_; rintro e w1 ⟨rfl, ha⟩; obtain ⟨hc, hf⟩ := ha.cell; rw [hn])
  go_quiet ((go_at_call 56; exact Calls.quiet_of_same (power_any _ _)))
  go_wp2_with (go_at_call 57; refine (scale_any _ _ _ _).mono ?_; rintro e w2 ⟨rfl, n2, rfl⟩)
  go_ret2
  exact ⟨ret_ib HF.out, ((After.rfl.alloc _).trans ha).draws _⟩
/-- What thousandths answers. -/
def thZ (k m e : Int) : Int := if numB k m e = true then fixZ m e else -1
theorem num_bd {k m e : Int} (h : numB k m e = true) : k = 0 ∧ -8388605 ≤ m ∧ m ≤ 8388605 ∧ -128 ≤ e ∧ e ≤ 127 := by
  unfold numB at h
  rw [Bool.and_eq_true, fitL_iff] at h
  exact ⟨by simpa using h.1, h.2⟩
theorem num_of {m e : Int} (h : -8388605 ≤ m ∧ m ≤ 8388605 ∧ -128 ≤ e ∧ e ≤ 127) : numB 0 m e = true := by
  rw [numB_zero, fitL_iff]; exact h
end Go.Proofs.YtgapnimicaopcaaGreat.L2
