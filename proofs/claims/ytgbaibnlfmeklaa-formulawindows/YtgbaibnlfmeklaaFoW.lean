/-
  within: what it answers.
-/
import Derived.Test.YtgbaibnlfmeklaaFoQ
namespace Go.Proofs.Ytgbaibnlfmeklaa
open Go.RowKit
set_option maxRecDepth 8000
theorem bits_get (f : Nat → Bool) : ∀ (n j : Nat) (h : j < (bitsOf f n).size), (bitsOf f n)[j] = if f j = true then (49 : UInt8) else 48
  | 0, j, h => by
    have := bitsOf_size f 0
    omega
  | n + 1, j, h => by
    have hs := bitsOf_size f n
    have hs1 := bitsOf_size f (n + 1)
    by_cases hj : j < n
    · have e : (bitsOf f (n + 1))[j] = (bitsOf f n)[j] := ByteArray.getElem_append_left (by omega)
      rw [e]
      exact bits_get f n j (by omega)
    · obtain rfl : j = n := by omega
      have e : (bitsOf f (j + 1))[j] = (if f j = true then (⟨#[49]⟩ : ByteArray) else ⟨#[48]⟩)[j - (bitsOf f j).size]'(by split <;> (show j - (bitsOf f j).size < 1; omega)) := ByteArray.getElem_append_right (by omega)
      rw [e]
      have e0 : j - (bitsOf f j).size = 0 := by omega
      simp only [e0]
      rcases f j with _ | _
      · rfl
      · rfl
theorem bits_nat {f : Nat → Bool} {n : Nat} {s : ByteArray} (hs : bitsOf f n = s) {j : Nat} (h : j < s.size) : (s[j]).toNat = if f j = true then 49 else 48 := by
  subst hs
  rw [bits_get]
  split <;> rfl
theorem within_any {s u : ByteArray} {f g : Nat → Bool} {n : Nat} (hn : n ≤ 1000) (hs : bitsOf f n = s) (hu : bitsOf g n = u) (h : ∀ t, t < n → f t = true → g t = true) (w : World) : Calls Try.prog 24 #[.string s, .string u] w fun e w' => e = .returned (.bool true) ∧ w' = w := by
  have zs : s.size = n := by rw [← hs, bitsOf_size]
  have zu : u.size = n := by rw [← hu, bitsOf_size]
  have HS := hideIt hs
  have HU := hideIt hu
  have HF := hideIt h
  clear hs hu h
  go_enter Try.func24, Try.ntmps24
  go_wp2_with fail
  go_loopw [5] (fun i wr => ∃ j : Nat, j ≤ n ∧ i = .int .i64 j ∧ wr = w) (fun i _ => n - (intOf i).toNat)
  case atStart => exact ⟨0, Nat.zero_le _, rfl, rfl⟩
  case round =>
    obtain ⟨j, hj, rfl, rfl⟩ := hrel
    by_cases hjn : j < n
    · have i1 : (j : Int) < (n : Int) := by omega
      have l1 : j < s.size := by omega
      have l2 : j < u.size := by omega
      have q1 := bits_nat HS.out l1
      have q2 := bits_nat HU.out l2
      have hf := HF.out j hjn
      rcases hfj : f j with _ | _
      · rw [hfj] at q1
        simp only [Bool.false_eq_true, if_false] at q1
        clear hf q2 hfj
        go_wp2_with fail
        go_roundw
        case rel => exact ⟨j + 1, by omega, by go_num, by first | rfl | trivial⟩
        case measure => simp [intOf]; omega
      · rw [hfj] at q1
        rw [hf hfj] at q2
        simp only [if_true] at q1 q2
        clear hf hfj
        go_wp2_with fail
        go_roundw
        case rel => exact ⟨j + 1, by omega, by go_num, by first | rfl | trivial⟩
        case measure => simp [intOf]; omega
    · have i1 : ¬ (j : Int) < (n : Int) := by omega
      go_wp2_with fail
      go_ret
      exact ⟨rfl, by first | rfl | trivial⟩
end Go.Proofs.Ytgbaibnlfmeklaa
