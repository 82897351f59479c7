/-
  Plain mathematics of numbers in thousandths: bringing into bounds, and quotients rounded half away from 0. No program in sight.
-/
namespace Go.Proofs.YtlfcihanhfabmaaGreatDoor.L1

/-- A number brought into bounds. -/
def cl (v : Int) : Int := if v < -2147483647 then -2147483647 else if 2147483647 < v then 2147483647 else v

theorem cl_lo (v : Int) : -2147483647 ≤ cl v := by unfold cl; split; omega; split <;> omega
theorem cl_hi (v : Int) : cl v ≤ 2147483647 := by unfold cl; split; omega; split <;> omega
theorem cl_id (v : Int) (h1 : -2147483647 ≤ v) (h2 : v ≤ 2147483647) : cl v = v := by
  unfold cl; rw [if_neg (by omega), if_neg (by omega)]
theorem cl_cl (v : Int) : cl (cl v) = cl v := cl_id _ (cl_lo v) (cl_hi v)
theorem cl_neg (v : Int) : cl (-v) = - cl v := by
  unfold cl
  by_cases h1 : v < -2147483647
  · rw [if_pos h1, if_neg (by omega), if_pos (by omega)]; omega
  · by_cases h2 : 2147483647 < v
    · rw [if_pos (by omega), if_neg h1, if_pos h2]
    · rw [if_neg (by omega), if_neg (by omega), if_neg h1, if_neg h2]
theorem cl_mono (v u : Int) (h : v ≤ u) : cl v ≤ cl u := by
  unfold cl
  split <;> split <;> (try split) <;> (try split) <;> omega
theorem cl_zero (v : Int) : cl v = 0 ↔ v = 0 := by
  unfold cl; split; omega; split <;> omega
theorem cl_pos (v : Int) : 0 < cl v ↔ 0 < v := by
  unfold cl; split; omega; split <;> omega
theorem cl_sign (v : Int) : cl v < 0 ↔ v < 0 := by
  unfold cl; split; omega; split <;> omega

/-- The product of two numbers within bounds. -/
theorem prod_hi (a b : Int) : cl a * cl b ≤ 4611686014132420609 := by
  have h1 := cl_lo a; have h2 := cl_hi a; have h3 := cl_lo b; have h4 := cl_hi b
  by_cases s1 : 0 ≤ cl a
  · have : cl a * cl b ≤ cl a * 2147483647 := Int.mul_le_mul_of_nonneg_left h4 s1
    omega
  · have : (- cl a) * (- cl b) ≤ (- cl a) * 2147483647 := Int.mul_le_mul_of_nonneg_left (by omega) (by omega)
    rw [Int.neg_mul_neg] at this
    omega
theorem prod_lo (a b : Int) : -4611686014132420609 ≤ cl a * cl b := by
  have := prod_hi (-a) b
  rw [cl_neg, Int.neg_mul] at this
  omega

/-- Without its sign (a plain name: the walk does not look into it). -/
def ab (a : Int) : Int := a.natAbs
theorem ab_def (a : Int) : ab a = a.natAbs := rfl

/-- n over d, rounded half up, of n from 0 on, d above 0. -/
def up (n d : Int) : Int := (2 * n + d) / (2 * d)
/-- a over b, rounded: of two that are as near the one that is farther from 0. -/
def rd (a b : Int) : Int := if (a < 0 ↔ b < 0) then up a.natAbs b.natAbs else - up a.natAbs b.natAbs

theorem up_eq (n d : Int) (_hn : 0 ≤ n) (hd : 0 < d) : up n d = if 2 * (n % d) < d then n / d else n / d + 1 := by
  unfold up
  have e := Int.mul_ediv_add_emod n d
  have r0 := Int.emod_nonneg n (show d ≠ 0 by omega)
  have r1 := Int.emod_lt_of_pos n hd
  have key : (2 * n + d) / (2 * d) = n / d + (2 * (n % d) + d) / (2 * d) := by
    have e2 : 2 * n + d = (2 * (n % d) + d) + (2 * d) * (n / d) := by
      have : (2 * d) * (n / d) = 2 * (d * (n / d)) := by rw [Int.mul_assoc]
      omega
    rw [e2, Int.add_mul_ediv_left _ _ (by omega)]
    omega
  rw [key]
  split
  · rename_i h
    have z : (2 * (n % d) + d) / (2 * d) = 0 := Int.ediv_eq_zero_of_lt (by omega) (by omega)
    omega
  · rename_i h
    have : (2 * (n % d) + d) / (2 * d) = 1 := by
      have e3 : 2 * (n % d) + d = (2 * (n % d) - d) + (2 * d) * 1 := by omega
      rw [e3, Int.add_mul_ediv_left _ _ (by omega), Int.ediv_eq_zero_of_lt (by omega) (by omega)]
      rfl
    rw [this]
theorem up_nonneg (n d : Int) (hn : 0 ≤ n) (hd : 0 < d) : 0 ≤ up n d := by
  unfold up; exact Int.ediv_nonneg (by omega) (by omega)
theorem up_zero (d : Int) (hd : 0 < d) : up 0 d = 0 := by
  unfold up; exact Int.ediv_eq_zero_of_lt (by omega) (by omega)
theorem up_le (n d : Int) (hn : 0 ≤ n) (hd : 0 < d) : up n d ≤ n + 1 := by
  rw [up_eq n d hn hd]
  have := Int.ediv_le_self d hn
  split <;> omega
theorem up_mono (n m d : Int) (hd : 0 < d) (h : n ≤ m) : up n d ≤ up m d := by
  unfold up; exact Int.ediv_le_ediv (by omega) (by omega)

/-- The four signs. -/
theorem rd_pp (n d : Int) (hn : 0 ≤ n) (hd : 0 < d) : rd n d = up n d := by
  unfold rd
  rw [if_pos (by omega), Int.natAbs_of_nonneg hn, Int.natAbs_of_nonneg (by omega)]
theorem rd_neg (a b : Int) (hb : b ≠ 0) : rd (-a) b = - rd a b := by
  unfold rd
  rw [Int.natAbs_neg]
  by_cases ha : a = 0
  · subst ha
    have z : up ((Int.natAbs 0 : Nat) : Int) b.natAbs = 0 := up_zero _ (by omega)
    rw [z]; simp
  · by_cases h : (a < 0 ↔ b < 0)
    · rw [if_pos h, if_neg (by omega)]
    · rw [if_neg h, if_pos (by omega), Int.neg_neg]
theorem rd_negd (a b : Int) (hb : b ≠ 0) : rd a (-b) = - rd a b := by
  unfold rd
  rw [Int.natAbs_neg]
  by_cases h : (a < 0 ↔ b < 0)
  · rw [if_pos h, if_neg (by omega)]
  · rw [if_neg h, if_pos (by omega), Int.neg_neg]

/-- What the program's rounded answers. -/
def rdGo (a b : Int) : Int := if 2 * ((a.tmod b).natAbs : Int) < b.natAbs then a.tdiv b else if (a < 0 ↔ b < 0) then a.tdiv b + 1 else a.tdiv b - 1
theorem rdGo_pp (n d : Int) (hn : 0 ≤ n) (hd : 0 < d) : rdGo n d = rd n d := by
  rw [rd_pp n d hn hd, up_eq n d hn hd]
  unfold rdGo
  rw [Int.tmod_eq_emod_of_nonneg hn, Int.tdiv_eq_ediv_of_nonneg hn]
  have r0 := Int.emod_nonneg n (show d ≠ 0 by omega)
  rw [Int.natAbs_of_nonneg r0, Int.natAbs_of_nonneg (by omega : 0 ≤ d)]
  split
  · rfl
  · rw [if_pos (by omega)]
theorem rdGo_neg (a b : Int) (ha : a ≠ 0) : rdGo (-a) b = - rdGo a b := by
  unfold rdGo
  rw [Int.neg_tmod, Int.neg_tdiv, Int.natAbs_neg]
  split
  · rfl
  · by_cases h : (a < 0 ↔ b < 0)
    · rw [if_pos h, if_neg (by omega)]; omega
    · rw [if_neg h, if_pos (by omega)]; omega
theorem rdGo_negd (a b : Int) (hb : b ≠ 0) : rdGo a (-b) = - rdGo a b := by
  unfold rdGo
  rw [Int.tmod_neg, Int.tdiv_neg, Int.natAbs_neg]
  split
  · rfl
  · by_cases h : (a < 0 ↔ b < 0)
    · rw [if_pos h, if_neg (by omega)]; omega
    · rw [if_neg h, if_pos (by omega)]; omega
theorem rdGo_eq (a b : Int) (hb : b ≠ 0) : rdGo a b = rd a b := by
  have step : ∀ d : Int, 0 < d → rdGo a d = rd a d := by
    intro d hd
    by_cases ha : 0 ≤ a
    · exact rdGo_pp a d ha hd
    · have h1 := rdGo_pp (-a) d (by omega) hd
      rw [rdGo_neg a d (by omega), rd_neg a d (by omega)] at h1
      omega
  by_cases hp : 0 < b
  · exact step b hp
  · have h1 := step (-b) (by omega)
    rw [rdGo_negd a b hb, rd_negd a b hb] at h1
    omega

/-- Rounding is near: twice what is left over is at most the divisor. -/
theorem rd_near (a d : Int) (hd : 0 < d) : 2 * (d * rd a d - a) ≤ d ∧ - d ≤ 2 * (d * rd a d - a) := by
  have pp : ∀ n : Int, 0 ≤ n → 2 * (d * rd n d - n) ≤ d ∧ - d ≤ 2 * (d * rd n d - n) := by
    intro n hn
    rw [rd_pp n d hn hd, up_eq n d hn hd]
    have e := Int.mul_ediv_add_emod n d
    have r0 := Int.emod_nonneg n (show d ≠ 0 by omega)
    have r1 := Int.emod_lt_of_pos n hd
    split
    · omega
    · rw [Int.mul_add, Int.mul_one]; omega
  by_cases ha : 0 ≤ a
  · exact pp a ha
  · have := pp (-a) (by omega)
    rw [rd_neg a d (by omega), Int.mul_neg] at this
    omega
theorem rd_mono (a b d : Int) (hd : 0 < d) (h : a ≤ b) : rd a d ≤ rd b d := by
  by_cases ha : 0 ≤ a
  · rw [rd_pp a d ha hd, rd_pp b d (by omega) hd]; exact up_mono a b d hd h
  · by_cases hb : 0 ≤ b
    · have h1 := rd_neg (-a) d (by omega)
      rw [Int.neg_neg, rd_pp (-a) d (by omega) hd] at h1
      have h2 := up_nonneg (-a) d (by omega) hd
      rw [h1, rd_pp b d hb hd]
      have h3 := up_nonneg b d hb hd
      omega
    · have h1 := rd_neg (-a) d (by omega)
      have h2 := rd_neg (-b) d (by omega)
      rw [Int.neg_neg, rd_pp (-a) d (by omega) hd] at h1
      rw [Int.neg_neg, rd_pp (-b) d (by omega) hd] at h2
      have := up_mono (-b) (-a) d hd (by omega)
      omega
/-- A number times d, over d, is the number. -/
theorem rd_mul (a d : Int) (hd : d ≠ 0) : rd (a * d) d = a := by
  have pp : ∀ n e : Int, 0 ≤ n → 0 < e → rd (n * e) e = n := by
    intro n e hn he
    have h0 : 0 ≤ n * e := Int.mul_nonneg hn (by omega)
    rw [rd_pp _ _ h0 he, up_eq _ _ h0 he, Int.mul_emod_left, if_pos (by omega), Int.mul_ediv_cancel _ (by omega)]
  have p : ∀ n e : Int, 0 < e → rd (n * e) e = n := by
    intro n e he
    by_cases hn : 0 ≤ n
    · exact pp n e hn he
    · have := pp (-n) e (by omega) he
      rw [Int.neg_mul, rd_neg _ _ (by omega)] at this
      omega
  by_cases hp : 0 < d
  · exact p a d hp
  · have := p (-a) (-d) (by omega)
    rw [Int.neg_mul_neg, rd_negd _ _ hd] at this
    omega

/-- The calls, as plain functions. -/
def addZ (a b : Int) : Int := cl (cl a + cl b)
def subZ (a b : Int) : Int := cl (cl a - cl b)
def mulZ (a b : Int) : Int := cl (rd (cl a * cl b) 1000)
def scaleZ (v n d : Int) : Int := if d = 0 then 0 else cl (rd (cl v * cl n) (cl d))
def scaleE (d : Int) : Int := if d = 0 then 9 else 0
end Go.Proofs.YtlfcihanhfabmaaGreatDoor.L1
