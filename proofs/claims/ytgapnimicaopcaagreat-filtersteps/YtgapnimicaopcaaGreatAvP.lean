/-
  The mean of some numbers, over lists alone: their sum over how many they are, rounded, of two that are as near the one farther from 0.
-/
import Derived.Test.YtgapnimicaopcaaGreatLstP
namespace Go.Proofs.YtgapnimicaopcaaGreat
set_option maxRecDepth 8000
/-- The sum. -/
def sumZ : List Int → Int
  | [] => 0
  | x :: r => x + sumZ r
theorem sumZ_append (xs ys : List Int) : sumZ (xs ++ ys) = sumZ xs + sumZ ys := by
  induction xs with
  | nil => simp [sumZ]
  | cons x r ih => simp only [List.cons_append, sumZ, ih]; omega
theorem sumZ_snoc (xs : List Int) (y : Int) : sumZ (xs ++ [y]) = sumZ xs + y := by rw [sumZ_append]; simp [sumZ]
theorem sumZ_perm {xs ys : List Int} (h : xs.Perm ys) : sumZ xs = sumZ ys := by
  induction h with
  | nil => rfl
  | cons x _ ih => simp only [sumZ, ih]
  | swap x y l => simp only [sumZ]; omega
  | trans _ _ h1 h2 => exact h1.trans h2
theorem sumZ_neg (xs : List Int) : sumZ (xs.map (fun x => -x)) = - sumZ xs := by
  induction xs with
  | nil => rfl
  | cons x r ih => simp only [List.map_cons, sumZ, ih]; omega
theorem sumZ_moved (xs : List Int) (d : Int) : sumZ (xs.map (fun x => x + d)) = sumZ xs + (xs.length : Int) * d := by
  induction xs with
  | nil => simp [sumZ]
  | cons x r ih =>
    simp only [List.map_cons, sumZ, ih, List.length_cons]
    rw [Int.natCast_add, Int.add_mul]
    omega
theorem sumZ_lo {xs : List Int} {m : Int} (h : ∀ x ∈ xs, m ≤ x) : (xs.length : Int) * m ≤ sumZ xs := by
  induction xs with
  | nil => simp [sumZ]
  | cons x r ih =>
    have h1 := h x (List.mem_cons_self ..)
    have h2 := ih (fun y hy => h y (List.mem_cons_of_mem _ hy))
    simp only [sumZ, List.length_cons]
    rw [Int.natCast_add, Int.add_mul]
    omega
theorem sumZ_hi {xs : List Int} {m : Int} (h : ∀ x ∈ xs, x ≤ m) : sumZ xs ≤ (xs.length : Int) * m := by
  induction xs with
  | nil => simp [sumZ]
  | cons x r ih =>
    have h1 := h x (List.mem_cons_self ..)
    have h2 := ih (fun y hy => h y (List.mem_cons_of_mem _ hy))
    simp only [sumZ, List.length_cons]
    rw [Int.natCast_add, Int.add_mul]
    omega
/-- Numbers within bounds. -/
def Fit (xs : List Int) : Prop := ∀ x ∈ xs, -2147483647 ≤ x ∧ x ≤ 2147483647
theorem Fit.nil : Fit [] := fun x h => by cases h
theorem Fit.take {xs : List Int} (h : Fit xs) (k : Nat) : Fit (xs.take k) := fun x hx => h x (List.mem_of_mem_take hx)
theorem Fit.drop {xs : List Int} (h : Fit xs) (k : Nat) : Fit (xs.drop k) := fun x hx => h x (List.mem_of_mem_drop hx)
theorem Fit.append {xs ys : List Int} (h : Fit xs) (k : Fit ys) : Fit (xs ++ ys) := fun x hx => by
  rcases List.mem_append.1 hx with e | e
  · exact h x e
  · exact k x e
theorem Fit.one (v : Int) : Fit [clampZ v] := fun x hx => by rw [List.mem_singleton.1 hx]; exact clampZ_le v
theorem Fit.clamps (zs : List Int) : Fit (clamps zs) := fun x hx => by
  obtain ⟨z, _, rfl⟩ := List.mem_map.1 hx
  exact clampZ_le z
theorem Fit.perm {xs ys : List Int} (h : Fit xs) (p : xs.Perm ys) : Fit ys := fun x hx => h x (p.mem_iff.2 hx)
theorem Fit.push {n : Nat} {s : List Int} (h : Fit s) (v : Int) : Fit (mpush n s (clampZ v)) := by
  unfold mpush
  split
  · exact h.append (Fit.one v)
  · exact (h.drop 1).append (Fit.one v)
theorem Fit.sum {xs : List Int} (h : Fit xs) (hl : xs.length ≤ 15) : -32212254705 ≤ sumZ xs ∧ sumZ xs ≤ 32212254705 := by
  have h1 := sumZ_lo (fun x hx => (h x hx).1)
  have h2 := sumZ_hi (fun x hx => (h x hx).2)
  omega
/-- A sum over k, rounded. -/
def near (s : Int) (k : Nat) : Int := if s < 0 then -((-2 * s + k) / (2 * k)) else (2 * s + k) / (2 * k)
def meanZ (xs : List Int) : Int := near (sumZ xs) xs.length
/-- The quotient of the doubled sum and k, by k doubled. -/
theorem half_up {t k : Int} (hk : 0 < k) : -k < 2 * (k * ((2 * t + k) / (2 * k)) - t) ∧ 2 * (k * ((2 * t + k) / (2 * k)) - t) ≤ k := by
  have h1 := Int.mul_ediv_add_emod (2 * t + k) (2 * k)
  have h2 := Int.emod_nonneg (2 * t + k) (show 2 * k ≠ 0 by omega)
  have h3 := Int.emod_lt_of_pos (2 * t + k) (show 0 < 2 * k by omega)
  have h4 : 2 * k * ((2 * t + k) / (2 * k)) = 2 * (k * ((2 * t + k) / (2 * k))) := by rw [Int.mul_assoc]
  generalize (2 * t + k) / (2 * k) = q at *
  generalize k * q = p at *
  omega
/-- k times it lies within k over 2 of the sum. -/
theorem near_two (s : Int) {k : Nat} (hk : 0 < k) : -(k : Int) ≤ 2 * ((k : Int) * near s k - s) ∧ 2 * ((k : Int) * near s k - s) ≤ (k : Int) := by
  have hk' : (0 : Int) < (k : Int) := by omega
  unfold near
  split
  · have h := half_up (t := -s) hk'
    rw [show -2 * s = 2 * -s by omega, Int.mul_neg]
    omega
  · have h := half_up (t := s) hk'
    omega
theorem mul_le_lt {k a b : Int} (hk : 0 < k) (h : 2 * (k * a) ≤ 2 * (k * b) + k) : a ≤ b := by
  rcases Int.lt_or_le b a with h' | h'
  · exfalso
    have h1 : k * (b + 1) ≤ k * a := Int.mul_le_mul_of_nonneg_left (by omega) (by omega)
    rw [Int.mul_add, Int.mul_one] at h1
    omega
  · exact h'
theorem near_between {s lo hi : Int} {k : Nat} (hk : 0 < k) (h1 : (k : Int) * lo ≤ s) (h2 : s ≤ (k : Int) * hi) : lo ≤ near s k ∧ near s k ≤ hi := by
  have hk' : (0 : Int) < (k : Int) := by omega
  have h := near_two s hk
  refine ⟨mul_le_lt hk' ?_, mul_le_lt hk' ?_⟩ <;> omega
/-- What is nearer than half is it. -/
theorem near_is {s m : Int} {k : Nat} (hk : 0 < k) (h1 : -(k : Int) < 2 * ((k : Int) * m - s)) (h2 : 2 * ((k : Int) * m - s) < (k : Int)) : near s k = m := by
  have hk' : (0 : Int) < (k : Int) := by omega
  have h := near_two s hk
  have a1 : near s k < m + 1 := by
    rcases Int.lt_or_le (near s k) (m + 1) with h' | h'
    · exact h'
    · exfalso
      have := Int.mul_le_mul_of_nonneg_left h' (show (0 : Int) ≤ (k : Int) by omega)
      rw [Int.mul_add, Int.mul_one] at this
      omega
  have a2 : m < near s k + 1 := by
    rcases Int.lt_or_le m (near s k + 1) with h' | h'
    · exact h'
    · exfalso
      have := Int.mul_le_mul_of_nonneg_left h' (show (0 : Int) ≤ (k : Int) by omega)
      rw [Int.mul_add, Int.mul_one] at this
      omega
  omega
theorem near_neg (s : Int) (k : Nat) (hk : 0 < k) : near (-s) k = - near s k := by
  unfold near
  rcases (by omega : s < 0 ∨ s = 0 ∨ 0 < s) with h | h | h
  · rw [if_neg (by omega), if_pos h, Int.neg_neg]
    congr 1
    omega
  · subst h
    simp
    rw [Int.ediv_eq_zero_of_lt (by omega) (by omega)]
    rfl
  · rw [if_pos (by omega), if_neg (by omega)]
    congr 2
    omega
theorem near_odd (s d : Int) {k : Nat} (hk : k % 2 = 1) : near (s + (k : Int) * d) k = near s k + d := by
  have h := near_two s (k := k) (by omega)
  have hk' : (k : Int) % 2 = 1 := by omega
  refine near_is (by omega) ?_ ?_
  · rw [Int.mul_add]; omega
  · rw [Int.mul_add]; omega
theorem near_one (s : Int) : near s 1 = s := near_is (by omega) (by omega) (by omega)
theorem near_zero (k : Nat) (hk : 0 < k) : near 0 k = 0 := near_is (by omega) (by simp; omega) (by simp; omega)
/-- What the rest of a quotient is rounded to. -/
def part (r : Int) (k : Nat) : Int := if r < 0 then (if 2 * -r < (k : Int) then 0 else -1) else (if 2 * r < (k : Int) then 0 else 1)
theorem part_up {s : Int} {k : Nat} (hk : 0 < k) (hs : 0 ≤ s) : near s k = s / (k : Int) + part (s % (k : Int)) k := by
  have h1 := Int.mul_ediv_add_emod s (k : Int)
  have h2 := Int.emod_nonneg s (show (k : Int) ≠ 0 by omega)
  have h3 := Int.emod_lt_of_pos s (show 0 < (k : Int) by omega)
  unfold near part
  rw [if_neg (by omega), if_neg (by omega)]
  generalize hq : s / (k : Int) = q at *
  generalize s % (k : Int) = r at *
  have e : 2 * s + (k : Int) = (2 * r + (k : Int)) + (2 * (k : Int)) * q := by rw [← h1, Int.mul_assoc]; omega
  rw [e, Int.add_mul_ediv_left _ _ (by omega)]
  split
  · rw [Int.ediv_eq_zero_of_lt (by omega) (by omega)]; omega
  · rw [show 2 * r + (k : Int) = (2 * r - (k : Int)) + 2 * (k : Int) * 1 by omega, Int.add_mul_ediv_left _ _ (by omega), Int.ediv_eq_zero_of_lt (by omega) (by omega)]
    omega
theorem part_neg (r : Int) (k : Nat) (hk : 0 < k) : part (-r) k = - part r k := by
  unfold part
  rcases (by omega : r < 0 ∨ r = 0 ∨ 0 < r) with h | h | h
  · rw [if_neg (show ¬ -r < 0 by omega), if_pos h]
    split <;> rfl
  · subst h
    simp [hk]
  · rw [if_pos (show -r < 0 by omega), if_neg (show ¬ r < 0 by omega), Int.neg_neg]
    split <;> rfl
theorem near_go (s : Int) {k : Nat} (hk : 0 < k) : s.tdiv (k : Int) + part (s.tmod (k : Int)) k = near s k := by
  by_cases h : 0 ≤ s
  · rw [Int.tdiv_eq_ediv_of_nonneg h, Int.tmod_eq_emod_of_nonneg h, part_up hk h]
  · obtain ⟨t, rfl⟩ : ∃ t, s = -t := ⟨-s, by omega⟩
    rw [Int.neg_tdiv, Int.neg_tmod, part_neg _ _ hk, near_neg _ _ hk, Int.tdiv_eq_ediv_of_nonneg (by omega), Int.tmod_eq_emod_of_nonneg (by omega), part_up hk (by omega)]
    omega
/-- The mean behind i + 1 of the numbers. -/
def avg (n : Nat) (zs : List Int) (i : Nat) : Int := meanZ (lastN n (clamps (zs.take (i + 1))))
def avgs (n : Nat) (zs : List Int) (j : Nat) : List Int := (List.range j).map (avg n zs)
theorem avgs_length (n : Nat) (zs : List Int) (j : Nat) : (avgs n zs j).length = j := by simp [avgs]
theorem avgs_succ (n : Nat) (zs : List Int) (j : Nat) : avgs n zs (j + 1) = avgs n zs j ++ [avg n zs j] := by
  unfold avgs
  rw [List.range_succ, List.map_append]
  rfl
theorem avgs_at (n : Nat) (zs : List Int) {i j : Nat} (h : i < j) : (avgs n zs j)[i]? = some (avg n zs i) := by
  simp [avgs, h]
theorem avgs_getD {N : Nat} {zs : List Int} {i j : Nat} (h : i < j) : (avgs N zs j).getD i 0 = avg N zs i := by
  rw [List.getD_eq_getElem?_getD, avgs_at N zs h]
  rfl
theorem meanZ_same {xs ys : List Int} (h : xs.Perm ys) : meanZ xs = meanZ ys := by unfold meanZ; rw [sumZ_perm h, h.length_eq]
end Go.Proofs.YtgapnimicaopcaaGreat
