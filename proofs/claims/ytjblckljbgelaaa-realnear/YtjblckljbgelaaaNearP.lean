/-
  Thousandths are near what they are of: the plain facts on Of and Fixed.
-/
import Derived.Test.YtjblckljbgelaaaOfP
import Derived.Test.YtjblckljbgelaaaFix
namespace Go.Proofs.Ytjblckljbgelaaa
theorem ten7' : ten 7 = 10000000 := by decide
theorem ten_tp (n : Nat) : ten n = tp n := by
  induction n with
  | zero => rfl
  | succ n ih => rw [tp_succ, ten, ih]; omega
theorem lo2_spec (n : Nat) : ∀ (m e : Int), m ≠ 0 → -ten n < m → m < ten n → ∃ d : Nat, d ≤ n ∧ (lo2 n m e).2 = e + d ∧ (lo2 n m e).1 * tp d = m ∧ (lo2 n m e).1 ≠ 0 ∧ ¬ (lo2 n m e).1 % 10 = 0 := by
  induction n with
  | zero =>
    intro m e h0 h1 h2
    have : ten 0 = 1 := rfl
    omega
  | succ n ih =>
    intro m e h0 h1 h2
    by_cases h10 : m % 10 = 0
    · obtain ⟨s1, s2, s3, s4, s5⟩ := step2 h10 h0 h1 h2
      obtain ⟨d, d1, d2, d3, d4, d5⟩ := ih (rd m 10) (e + 1) s1 s2 s3
      rw [lo2_go h10]
      refine ⟨d + 1, by omega, by rw [d2]; omega, ?_, d4, d5⟩
      rw [tp_succ, ← Int.mul_assoc, d3, s5]
    · rw [lo2_stop h10]
      exact ⟨0, by omega, by omega, by rw [tp_zero, Int.mul_one], h0, h10⟩
/-- The first steps: how many, and how far off. -/
theorem lo1_spec (n : Int) (h0 : n ≠ 0) (h1 : -2147483647 ≤ n) (h2 : n ≤ 2147483647) : ∃ t : Nat, t ≤ 3 ∧ (lo1 3 n (-3)).2 = -3 + t ∧ (lo1 3 n (-3)).1 ≠ 0 ∧ -8388605 ≤ (lo1 3 n (-3)).1 ∧ (lo1 3 n (-3)).1 ≤ 8388605 ∧ (((n.natAbs : Int) ≤ 8388605) → t = 0 ∧ (lo1 3 n (-3)).1 = n) ∧ (((lo1 3 n (-3)).1 * tp t - n).natAbs : Int) ≤ (n.natAbs : Int) / 1500000 + 1 := by
  have t0 : tp 0 = 1 := by decide
  have t1 : tp 1 = 10 := by decide
  have t2 : tp 2 = 100 := by decide
  have t3 : tp 3 = 1000 := by decide
  by_cases a0 : -8388605 ≤ n ∧ n ≤ 8388605
  · rw [lo1_in a0]
    exact ⟨0, by omega, by omega, h0, a0.1, a0.2, fun _ => ⟨rfl, rfl⟩, by simp only [t0]; omega⟩
  · rw [lo1_out a0]
    have r1 := rd10 n
    obtain ⟨m1, e1⟩ : ∃ m1, rd n 10 = m1 := ⟨_, rfl⟩
    rw [e1] at r1 ⊢
    by_cases a1 : -8388605 ≤ m1 ∧ m1 ≤ 8388605
    · rw [lo1_in a1]
      refine ⟨1, by omega, by omega, ?_, a1.1, a1.2, fun _ => ?_, ?_⟩
      · show m1 ≠ 0
        split at r1 <;> omega
      · omega
      · show ((m1 * tp 1 - n).natAbs : Int) ≤ _
        rw [t1]; split at r1 <;> omega
    · rw [lo1_out a1]
      have r2 := rd10 m1
      obtain ⟨m2, e2⟩ : ∃ m2, rd m1 10 = m2 := ⟨_, rfl⟩
      rw [e2] at r2 ⊢
      by_cases a2 : -8388605 ≤ m2 ∧ m2 ≤ 8388605
      · rw [lo1_in a2]
        refine ⟨2, by omega, by omega, ?_, a2.1, a2.2, fun _ => ?_, ?_⟩
        · show m2 ≠ 0
          split at r2 <;> omega
        · omega
        · show ((m2 * tp 2 - n).natAbs : Int) ≤ _
          rw [t2]; split at r1 <;> split at r2 <;> omega
      · rw [lo1_out a2]
        have r3 := rd10 m2
        obtain ⟨m3, e3⟩ : ∃ m3, rd m2 10 = m3 := ⟨_, rfl⟩
        rw [e3] at r3 ⊢
        have a3 : -8388605 ≤ m3 ∧ m3 ≤ 8388605 := by
          split at r1 <;> split at r2 <;> split at r3 <;> omega
        rw [lo1_in a3]
        refine ⟨3, by omega, by omega, ?_, a3.1, a3.2, fun _ => ?_, ?_⟩
        · show m3 ≠ 0
          split at r3 <;> omega
        · omega
        · show ((m3 * tp 3 - n).natAbs : Int) ≤ _
          rw [t3]; split at r1 <;> split at r2 <;> split at r3 <;> omega
theorem cl_near (x n B : Int) (h1 : -2147483647 ≤ n) (h2 : n ≤ 2147483647) (h : ((x - n).natAbs : Int) ≤ B) : ((cl x - n).natAbs : Int) ≤ B := by
  unfold cl; split
  · omega
  · split <;> omega
/-- All that RealNear asks of a number within bounds. -/
theorem near_pure (n : Int) (h1 : -2147483647 ≤ n) (h2 : n ≤ 2147483647) : numB 0 (ofM n) (ofE n) = true ∧ ((n.natAbs : Int) ≤ 8388605 → fixZ (ofM n) (ofE n) = n) ∧ (((fixZ (ofM n) (ofE n) - n).natAbs : Int) ≤ (n.natAbs : Int) / 1500000 + 1) ∧ (n ≠ 0 → ¬ (ofM n) % 10 = 0) := by
  have hc : cl n = n := cl_id n h1 h2
  by_cases h0 : n = 0
  · subst h0
    have e1 : ofM 0 = 0 := by decide
    have e2 : ofE 0 = 0 := by decide
    rw [e1, e2, fix_zero]
    exact ⟨num_of (by omega), fun _ => rfl, by decide, fun h => absurd rfl h⟩
  · have e1 : ofM n = (st2 n).1 := by unfold ofM; rw [if_neg (by omega)]
    have e2 : ofE n = (st2 n).2 := by unfold ofE; rw [if_neg (by omega)]
    obtain ⟨t, t1, t2, t3, t4, t5, t6, t7⟩ := lo1_spec n h0 h1 h2
    have es : st2 n = lo2 7 (lo1 3 n (-3)).1 (lo1 3 n (-3)).2 := by unfold st2 st1; rw [hc]
    obtain ⟨d, d1, d2, d3, d4, d5⟩ := lo2_spec 7 (lo1 3 n (-3)).1 (lo1 3 n (-3)).2 t3 (by rw [ten7']; omega) (by rw [ten7']; omega)
    rw [e1, e2, es]
    generalize (lo1 3 n (-3)).1 = m1 at *
    generalize (lo1 3 n (-3)).2 = q1 at *
    generalize hA : (lo2 7 m1 q1).1 = A at *
    generalize (lo2 7 m1 q1).2 = B at *
    have hd : d ≤ 6 := by
      by_cases hd : d ≤ 6
      · exact hd
      · exfalso
        have h7 : d = 7 := by omega
        subst h7
        have : tp 7 = 10000000 := by decide
        rw [this] at d3
        omega
    have hAb : -8388605 ≤ A ∧ A ≤ 8388605 := by
      have hp : 1 ≤ tp d := tp_pos d
      by_cases hs : 0 ≤ A
      · have : A * 1 ≤ A * tp d := Int.mul_le_mul_of_nonneg_left hp hs
        omega
      · have : (-A) * 1 ≤ (-A) * tp d := Int.mul_le_mul_of_nonneg_left hp (by omega)
        rw [Int.mul_one, Int.neg_mul] at this
        omega
    have htd : A * tp (t + d) = m1 * tp t := by
      have : tp (t + d) = tp d * tp t := by unfold tp; rw [Nat.add_comm, Int.pow_add]
      rw [this, ← Int.mul_assoc, d3]
    have hfix : fixZ A B = cl (m1 * tp t) := by
      rw [fix_up A B hAb.1 hAb.2 (by omega), show B + 3 = ((t + d : Nat) : Int) by omega, pw_nat (by omega), cl_id (tp (t + d)) (by have := tp_pos (t + d); omega) (by have := tp_le9 (k := t + d) (by omega); omega), htd]
    rw [hfix]
    refine ⟨num_of (by omega), fun hs => ?_, cl_near _ _ _ h1 h2 t7, fun _ => d5⟩
    obtain ⟨rfl, rfl⟩ := t6 hs
    rw [tp_zero, Int.mul_one]; exact cl_id _ h1 h2
end Go.Proofs.Ytjblckljbgelaaa
