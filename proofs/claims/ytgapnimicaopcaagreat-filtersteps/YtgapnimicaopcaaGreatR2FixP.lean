/-
  A number in thousandths, as a plain function of mantissa and exponent: how it is reckoned, its order, its sign, how near it is.
-/
import Derived.Test.YtgapnimicaopcaaGreatR2Pure
namespace Go.Proofs.YtgapnimicaopcaaGreat.L2
/-- A power of ten. -/
def tp (k : Nat) : Int := 10 ^ k
theorem tp_zero : tp 0 = 1 := rfl
theorem tp_succ (k : Nat) : tp (k + 1) = tp k * 10 := by unfold tp; exact Int.pow_succ _ _
theorem tp_pos (k : Nat) : 0 < tp k := by
  induction k with
  | zero => decide
  | succ k ih => rw [tp_succ]; omega
theorem tp_mono {a b : Nat} (h : a ≤ b) : tp a ≤ tp b := by
  induction b with
  | zero => have : a = 0 := by omega
            subst this; exact Int.le_refl _
  | succ b ih =>
    by_cases he : a = b + 1
    · subst he; exact Int.le_refl _
    · have := ih (by omega); have := tp_pos b; rw [tp_succ]; omega
theorem tp_9 : tp 9 = 1000000000 := by decide
theorem tp_10 : tp 10 = 10000000000 := by decide
theorem tp_8 : tp 8 = 100000000 := by decide
theorem tp_le9 {k : Nat} (h : k ≤ 9) : tp k ≤ 1000000000 := by have := tp_mono h; rw [tp_9] at this; exact this
/-- 10 to the power of n, at most 10^10; 1, if n is below 0. -/
def pw (n : Int) : Int := tp (min n 10).toNat
theorem pw_neg {n : Int} (h : n ≤ 0) : pw n = 1 := by unfold pw; rw [show (min n 10).toNat = 0 by omega]; rfl
theorem pw_pos (n : Int) : 0 < pw n := tp_pos _
theorem pw_nat {k : Nat} (h : k ≤ 10) : pw k = tp k := by unfold pw; rw [show (min (k : Int) 10).toNat = k by omega]
theorem pw_big {n : Int} (h : 10 ≤ n) : pw n = 10000000000 := by unfold pw; rw [show (min n 10).toNat = 10 by omega]; exact tp_10
/-- The number in thousandths. -/
def fixZ (m e : Int) : Int := scaleZ m (pw (e + 3)) (pw (-3 - e))
theorem cl_one : cl 1 = 1 := by decide
theorem rd_one (a : Int) : rd a 1 = a := by have := rd_mul a 1 (by decide); rwa [Int.mul_one] at this
theorem fix_eq (m e : Int) : fixZ m e = cl (rd (cl m * cl (pw (e + 3))) (cl (pw (-3 - e)))) := by
  unfold fixZ scaleZ
  rw [if_neg (by have := pw_pos (-3 - e); omega)]
theorem fix_up (m e : Int) (h1 : -8388605 ≤ m) (h2 : m ≤ 8388605) (he : -3 ≤ e) : fixZ m e = cl (m * cl (pw (e + 3))) := by
  rw [fix_eq, pw_neg (by omega : -3 - e ≤ 0), cl_one, rd_one, cl_id m (by omega) (by omega)]
theorem fix_dn (m e : Int) (h1 : -8388605 ≤ m) (h2 : m ≤ 8388605) (he : e ≤ -3) : fixZ m e = cl (rd m (cl (pw (-3 - e)))) := by
  rw [fix_eq, pw_neg (by omega : e + 3 ≤ 0), cl_one, Int.mul_one, cl_id m (by omega) (by omega)]
theorem cl_pw_pos (n : Int) : 0 < cl (pw n) := (cl_pos _).2 (pw_pos n)
theorem fix_neg (m e : Int) (_h1 : -8388605 ≤ m) (_h2 : m ≤ 8388605) : fixZ (-m) e = - fixZ m e := by
  rw [fix_eq, fix_eq, cl_neg, Int.neg_mul, rd_neg _ _ (by have := cl_pw_pos (-3 - e); omega), cl_neg]
theorem fix_mono (m n e : Int) (h : m ≤ n) : fixZ m e ≤ fixZ n e := by
  rw [fix_eq, fix_eq]
  refine cl_mono _ _ (rd_mono _ _ _ (cl_pw_pos _) ?_)
  exact Int.mul_le_mul_of_nonneg_right (cl_mono _ _ h) (by have := cl_pw_pos (e + 3); omega)
theorem fix_zero (e : Int) : fixZ 0 e = 0 := by
  have := fix_neg 0 e (by omega) (by omega)
  rw [Int.neg_zero] at this; omega
/-- Multiplied: within bounds it is the product. -/
theorem fix_up_in (m e : Int) (k : Nat) (h1 : -8388605 ≤ m) (h2 : m ≤ 8388605) (he : e + 3 = k) (hk : k ≤ 9) (b1 : -2147483647 ≤ m * tp k) (b2 : m * tp k ≤ 2147483647) : fixZ m e = m * tp k := by
  rw [fix_up m e h1 h2 (by omega), he, pw_nat (by omega), cl_id (tp k) (by have := tp_pos k; omega) (by have := tp_le9 hk; omega), cl_id _ b1 b2]
/-- Beyond: it is the bound. -/
theorem fix_up_hi (m e : Int) (j : Nat) (h2 : m ≤ 8388605) (h3 : 1 ≤ m) (he : (j : Int) ≤ e + 3) (hj : j ≤ 10) (b : 2147483647 < m * tp j) : fixZ m e = 2147483647 := by
  rw [fix_up m e (by omega) h2 (by omega)]
  have key : 2147483647 ≤ m * cl (pw (e + 3)) := by
    by_cases h9 : e + 3 ≤ 9
    · obtain ⟨k, hk⟩ : ∃ k : Nat, e + 3 = k := ⟨(e + 3).toNat, by omega⟩
      rw [hk, pw_nat (by omega), cl_id (tp k) (by have := tp_pos k; omega) (by have := tp_le9 (k := k) (by omega); omega)]
      have : m * tp j ≤ m * tp k := Int.mul_le_mul_of_nonneg_left (tp_mono (by omega)) (by omega)
      omega
    · rw [pw_big (by omega)]
      have : cl 10000000000 = 2147483647 := by decide
      rw [this]; omega
  generalize m * cl (pw (e + 3)) = x at *
  unfold cl
  rw [if_neg (by omega)]
  split <;> omega
theorem fix_up_lo (m e : Int) (j : Nat) (h2 : -8388605 ≤ m) (h3 : m ≤ -1) (he : (j : Int) ≤ e + 3) (hj : j ≤ 10) (b : m * tp j < -2147483647) : fixZ m e = -2147483647 := by
  have h := fix_up_hi (-m) e j (by omega) (by omega) he hj (by rw [Int.neg_mul]; omega)
  rw [fix_neg m e h2 (by omega)] at h
  omega
/-- Divided. -/
theorem rd_le (m P : Int) (hP : 0 < P) : rd m P ≤ (m.natAbs : Int) + 1 ∧ -((m.natAbs : Int) + 1) ≤ rd m P := by
  by_cases hm : 0 ≤ m
  · rw [rd_pp m P hm hP]
    have a := up_le m P hm hP
    have b := up_nonneg m P hm hP
    omega
  · have e1 := rd_neg (-m) P (by omega)
    rw [Int.neg_neg, rd_pp (-m) P (by omega) hP] at e1
    have a := up_le (-m) P (by omega) hP
    have b := up_nonneg (-m) P (by omega) hP
    omega
theorem fix_dn_in (m e : Int) (k : Nat) (h1 : -8388605 ≤ m) (h2 : m ≤ 8388605) (he : -3 - e = k) (hk : k ≤ 9) : fixZ m e = rd m (tp k) := by
  have hp := tp_pos k
  have hb := rd_le m (tp k) hp
  rw [fix_dn m e h1 h2 (by omega), he, pw_nat (by omega), cl_id (tp k) (by omega) (by have := tp_le9 hk; omega), cl_id _ (by omega) (by omega)]
theorem rd_small (m P : Int) (hP : 0 < P) (h1 : -P < 2 * m) (h2 : 2 * m < P) : rd m P = 0 := by
  have := rd_near m P hP
  by_cases hz : rd m P = 0
  · exact hz
  · exfalso
    by_cases hs : 1 ≤ rd m P
    · have : P * 1 ≤ P * rd m P := Int.mul_le_mul_of_nonneg_left hs (by omega)
      omega
    · have : P * rd m P ≤ P * (-1) := Int.mul_le_mul_of_nonneg_left (by omega) (by omega)
      omega
theorem fix_dn_far (m e : Int) (h1 : -8388605 ≤ m) (h2 : m ≤ 8388605) (he : 9 ≤ -3 - e) : fixZ m e = 0 := by
  by_cases h9 : -3 - e = 9
  · rw [fix_dn_in m e 9 h1 h2 h9 (by omega), tp_9]
    exact rd_small _ _ (by omega) (by omega) (by omega)
  · rw [fix_dn m e h1 h2 (by omega), pw_big (by omega)]
    have : cl 10000000000 = 2147483647 := by decide
    rw [this, rd_small _ _ (by omega) (by omega) (by omega)]
    decide
/-- The document's last line. -/
theorem ref_line (n P : Int) (hP : 0 < P) (hn : 0 ≤ n) : (2 * n + P) / (2 * P) = rd n P := by rw [rd_pp n P hn hP]; rfl
theorem ref_line_neg (n P : Int) (hP : 0 < P) (hn : n ≤ 0) : -((2 * (-n) + P) / (2 * P)) = rd n P := by
  rw [ref_line (-n) P hP (by omega), rd_neg n P (by omega)]; omega
end Go.Proofs.YtgapnimicaopcaaGreat.L2
