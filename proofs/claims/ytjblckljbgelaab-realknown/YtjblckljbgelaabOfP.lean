/-
  The number that thousandths are, as a plain function: divided by ten till it fits, then as long as it is a multiple of ten.
-/
import Derived.Test.YtjblckljbgelaabFixP
namespace Go.Proofs.Ytjblckljbgelaab
def lo1 : Nat → Int → Int → Int × Int
  | 0, m, e => (m, e)
  | n + 1, m, e => if -8388605 ≤ m ∧ m ≤ 8388605 then (m, e) else lo1 n (rd m 10) (e + 1)
def lo2 : Nat → Int → Int → Int × Int
  | 0, m, e => (m, e)
  | n + 1, m, e => if m % 10 = 0 then lo2 n (rd m 10) (e + 1) else (m, e)
def cap : Nat → Int
  | 0 => 8388605
  | n + 1 => 10 * cap n
def ten : Nat → Int
  | 0 => 1
  | n + 1 => 10 * ten n
theorem rd10 (m : Int) : rd m 10 = if 0 ≤ m then (m + 5) / 10 else -((-m + 5) / 10) := by
  by_cases h : 0 ≤ m
  · rw [if_pos h, rd_pp m 10 h (by decide)]; unfold up; omega
  · have e := rd_neg (-m) 10 (by decide)
    rw [Int.neg_neg, rd_pp (-m) 10 (by omega) (by decide)] at e
    rw [if_neg h, e]; unfold up; omega
theorem lo1_in {n : Nat} {m e : Int} (h : -8388605 ≤ m ∧ m ≤ 8388605) : lo1 n m e = (m, e) := by
  cases n with
  | zero => rfl
  | succ n => unfold lo1; rw [if_pos h]
theorem lo1_out {n : Nat} {m e : Int} (h : ¬ (-8388605 ≤ m ∧ m ≤ 8388605)) : lo1 (n + 1) m e = lo1 n (rd m 10) (e + 1) := by
  rw [lo1]; rw [if_neg h]
theorem lo2_stop {n : Nat} {m e : Int} (h : ¬ m % 10 = 0) : lo2 n m e = (m, e) := by
  cases n with
  | zero => rfl
  | succ n => unfold lo2; rw [if_neg h]
theorem lo2_go {n : Nat} {m e : Int} (h : m % 10 = 0) : lo2 (n + 1) m e = lo2 n (rd m 10) (e + 1) := by
  rw [lo2]; rw [if_pos h]
/-- The pair behind the first steps, and behind all. -/
def st1 (v : Int) : Int × Int := lo1 3 (cl v) (-3)
def st2 (v : Int) : Int × Int := lo2 7 (st1 v).1 (st1 v).2
def ofM (v : Int) : Int := if cl v = 0 then 0 else (st2 v).1
def ofE (v : Int) : Int := if cl v = 0 then 0 else (st2 v).2
/-- One step of the first kind. -/
theorem step1 {n : Nat} {m : Int} (h0 : ¬ (-8388605 ≤ m ∧ m ≤ 8388605)) (h1 : -cap (n + 1) ≤ m) (h2 : m ≤ cap (n + 1)) : rd m 10 ≠ 0 ∧ -cap n ≤ rd m 10 ∧ rd m 10 ≤ cap n ∧ (rd m 10).natAbs < m.natAbs := by
  rw [rd10]
  unfold cap at h1 h2
  split <;> omega
/-- One step of the second kind. -/
theorem step2 {n : Nat} {m : Int} (h0 : m % 10 = 0) (hz : m ≠ 0) (h1 : -ten (n + 1) < m) (h2 : m < ten (n + 1)) : rd m 10 ≠ 0 ∧ -ten n < rd m 10 ∧ rd m 10 < ten n ∧ (rd m 10).natAbs < m.natAbs ∧ rd m 10 * 10 = m := by
  rw [rd10]
  unfold ten at h1 h2
  split <;> omega
theorem cap_bd (n : Nat) (h : n ≤ 3) : cap n ≤ 8388605000 := by
  rcases (by omega : n = 0 ∨ n = 1 ∨ n = 2 ∨ n = 3) with rfl | rfl | rfl | rfl <;> decide
theorem scale10 (m : Int) (h1 : -2147483647 ≤ m) (h2 : m ≤ 2147483647) : scaleZ m 1 10 = rd m 10 := by
  unfold scaleZ
  have hc : cl 10 = 10 := by decide
  rw [if_neg (by decide), cl_one, hc, Int.mul_one, cl_id m h1 h2]
  refine cl_id _ ?_ ?_ <;> rw [rd10] <;> split <;> omega
theorem tmod10 (m : Int) : m.tmod 10 = 0 ↔ m % 10 = 0 := by
  by_cases h : 0 ≤ m
  · rw [Int.tmod_eq_emod_of_nonneg h]
  · have e : m.tmod 10 = -((-m) % 10) := by
      have := Int.neg_tmod (-m) 10
      rw [Int.neg_neg, Int.tmod_eq_emod_of_nonneg (show 0 ≤ -m by omega)] at this
      exact this
    rw [e]; omega
theorem tdiv10 (m : Int) (h : m % 10 = 0) : m.tdiv 10 = rd m 10 := by
  rw [rd10]
  split
  · rename_i h0
    rw [Int.tdiv_eq_ediv_of_nonneg h0]; omega
  · have e : m.tdiv 10 = -((-m) / 10) := by
      have := Int.neg_tdiv (-m) 10
      rw [Int.neg_neg, Int.tdiv_eq_ediv_of_nonneg (show 0 ≤ -m by omega)] at this
      exact this
    rw [e]; omega
end Go.Proofs.Ytjblckljbgelaab
