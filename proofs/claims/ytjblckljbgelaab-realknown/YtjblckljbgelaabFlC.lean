/-
  Float, over rungs: a mantissa times ten, or over ten, again and again: it stays finite, keeps its order, and is near.
-/
import Derived.Test.YtjblckljbgelaabFlB
namespace Go.Proofs.Ytjblckljbgelaab
namespace Fl

def fUp (m : Nat) : Nat → Nat
  | 0 => rung (m * 2 ^ E3)
  | k + 1 => rung (10 * val (fUp m k))
def fDn (m : Nat) : Nat → Nat
  | 0 => rung (m * 2 ^ E3)
  | k + 1 => rung (sq (val (fDn m k)))

theorem sh_ge (r : Nat) : 1926 ≤ sh r := by unfold sh; omega
theorem val_log (r : Nat) : val r = 0 ∨ 58 ≤ (val r).log2 := by
  by_cases h : mg r = 0
  · exact Or.inl (by unfold val; rw [h, Nat.zero_mul])
  · have hs := sh_ge r
    refine Or.inr ?_
    unfold val
    rw [log2_scale _ _ h]; omega
theorem pow58 {N : Nat} (h : 58 ≤ N.log2) : 288230376151711744 * 2 ^ (N.log2 - 58) ≤ N := by
  have h0 : N ≠ 0 := by intro e; rw [e, Nat.log2_zero] at h; omega
  have := Nat.log2_self_le h0
  rw [show N.log2 = 58 + (N.log2 - 58) by omega, Nat.pow_add] at this
  exact this
theorem sq_le {N : Nat} (h : N = 0 ∨ 58 ≤ N.log2) : sq N ≤ N := by
  rcases h with rfl | h
  · rw [sq_zero]; exact Nat.le_refl _
  · have a := (sq_near h).1
    have b := pow58 h
    generalize 2 ^ (N.log2 - 58) = z at *
    omega
theorem mlt {m : Nat} (h : m < 8388608) : m < 2 * BIN := by
  have hB : BIN = 4503599627370496 := rfl
  rw [hB]; omega
theorem eE1 : 1926 ≤ E3 := by rw [hE3]; omega
theorem eE2 : E3 ≤ 3900 := by rw [hE3]; omega

theorem fDn_facts {m : Nat} (hm : m < 8388608) (k : Nat) : fDn m k < INF ∧ val (fDn m k) ≤ m * 2 ^ E3 := by
  induction k with
  | zero => exact ⟨rung_fin m E3 (mlt hm) eE2, Nat.le_of_eq (val_rung m E3 (mlt hm) eE1 eE2)⟩
  | succ k ih =>
    have h1 := Nat.le_trans (sq_le (val_log (fDn m k))) ih.2
    exact ⟨rung_lt_inf h1 (mlt hm) eE2, val_rung_le h1 (mlt hm) eE1 eE2⟩
theorem one_lt : (1 : Nat) < 2 * BIN := by decide
theorem fUp_facts {m : Nat} (hm : m < 8388608) (k : Nat) (hk : k ≤ 200) : fUp m k < INF ∧ val (fUp m k) ≤ 1 * 2 ^ (3023 + 4 * k) := by
  induction k with
  | zero =>
    obtain ⟨q, hq⟩ : ∃ q, q = 23 + E3 := ⟨_, rfl⟩
    have hx : 3023 + 4 * 0 = q := by rw [hq]; rfl
    have q1 : 1926 ≤ q := by rw [hq, hE3]; omega
    have q2 : q ≤ 3900 := by rw [hq, hE3]; omega
    rw [hx]
    have e : m * 2 ^ E3 ≤ 1 * 2 ^ q := by
      rw [hq, Nat.pow_add, Nat.one_mul]
      exact Nat.mul_le_mul_right _ (by have : (2 : Nat) ^ 23 = 8388608 := by decide
                                       omega)
    exact ⟨rung_lt_inf e one_lt q2, val_rung_le e one_lt q1 q2⟩
  | succ k ih =>
    have ih := ih (by omega)
    have e : 10 * val (fUp m k) ≤ 1 * 2 ^ (3023 + 4 * (k + 1)) := by
      have : 2 ^ (3023 + 4 * (k + 1)) = 16 * 2 ^ (3023 + 4 * k) := by
        rw [show 3023 + 4 * (k + 1) = 4 + (3023 + 4 * k) by omega, Nat.pow_add]
      rw [this]
      have := ih.2
      generalize 2 ^ (3023 + 4 * k) = z at *
      omega
    exact ⟨rung_lt_inf e one_lt (by omega), val_rung_le e one_lt (by omega) (by omega)⟩
theorem fUp_mono {m n : Nat} (h : m ≤ n) (k : Nat) : fUp m k ≤ fUp n k := by
  induction k with
  | zero => exact rung_mono (Nat.mul_le_mul_right _ h)
  | succ k ih => exact rung_mono (Nat.mul_le_mul_left _ (val_mono ih))
theorem fDn_mono {m n : Nat} (h : m ≤ n) (k : Nat) : fDn m k ≤ fDn n k := by
  induction k with
  | zero => exact rung_mono (Nat.mul_le_mul_right _ h)
  | succ k ih => exact rung_mono (sq_mono (val_mono ih) (val_log _))
theorem fUp_exact {m : Nat} (k : Nat) (h : m * 10 ^ k < 2 * BIN) : val (fUp m k) = m * 10 ^ k * 2 ^ E3 := by
  induction k with
  | zero => rw [Nat.pow_zero, Nat.mul_one] at *; exact val_rung m E3 h eE1 eE2
  | succ k ih =>
    have e : m * 10 ^ (k + 1) = 10 * (m * 10 ^ k) := by rw [Nat.pow_succ, ← Nat.mul_assoc, Nat.mul_comm]
    rw [e] at h ⊢
    have ih := ih (by omega)
    show val (rung (10 * val (fUp m k))) = _
    rw [ih, ← Nat.mul_assoc]
    exact val_rung _ E3 h eE1 eE2
theorem fUp_grow {m : Nat} (hm : m < 8388608) (k : Nat) (hk : k ≤ 200) : val (fUp m k) ≤ val (fUp m (k + 1)) := by
  have hf := (fUp_facts hm k hk).2
  show val (fUp m k) ≤ val (rung (10 * val (fUp m k)))
  generalize fUp m k = r at *
  by_cases h0 : mg r = 0
  · have : val r = 0 := by unfold val; rw [h0, Nat.zero_mul]
    rw [this]; exact Nat.zero_le _
  · have hs : sh r ≤ 3023 + 4 * k := by
      have h1 : 2 ^ sh r ≤ 2 ^ (3023 + 4 * k) := by
        refine Nat.le_trans ?_ (Nat.le_trans hf (Nat.le_of_eq (Nat.one_mul _)))
        unfold val
        exact Nat.le_mul_of_pos_left _ (by omega)
      exact (Nat.pow_le_pow_iff_right (by omega)).1 h1
    have : mg r * 2 ^ sh r ≤ 10 * val r := by unfold val; omega
    exact le_val_rung this (mg_lt r) (sh_ge r) (by omega)
theorem fUp_far {m : Nat} (hm : m < 8388608) (h1 : 1 ≤ m) (k : Nat) (hk : k ≤ 190) : 10000000 * 2 ^ E3 ≤ val (fUp m (7 + k)) := by
  induction k with
  | zero =>
    have hB : BIN = 4503599627370496 := rfl
    have h7 : (10 : Nat) ^ 7 = 10000000 := by decide
    rw [Nat.add_zero, fUp_exact 7 (by rw [h7, hB]; omega), h7]
    exact Nat.mul_le_mul_right _ (by omega)
  | succ k ih => exact Nat.le_trans (ih (by omega)) (fUp_grow hm (7 + k) (by omega))

def Q32 : Nat := 2968
theorem hQ : Q32 = 2968 := rfl
theorem pE : 2 ^ E3 = 4294967296 * 2 ^ Q32 := by
  have : E3 = 32 + Q32 := rfl
  rw [this, Nat.pow_add]
theorem log_le {N : Nat} (h0 : N ≠ 0) (h : N < 36028797018963968 * 2 ^ Q32) : 2 ^ (N.log2 - 58) ≤ 2 ^ Q32 := by
  refine Nat.pow_le_pow_right (by omega) ?_
  have : (36028797018963968 : Nat) = 2 ^ 55 := by decide
  rw [this, ← Nat.pow_add] at h
  have h2 : N.log2 < 55 + Q32 := (Nat.log2_lt h0).2 h
  omega
/-- One division: ten times what comes out is near. -/
theorem step_near {N : Nat} (hN : N = 0 ∨ 58 ≤ N.log2) (h : N < 36028797018963968 * 2 ^ Q32) : 10 * val (rung (sq N)) ≤ N + 20 * 2 ^ Q32 ∧ N ≤ 10 * val (rung (sq N)) + 20 * 2 ^ Q32 := by
  by_cases h0 : N = 0
  · subst h0; rw [sq_zero, rung_zero, val_zero]; omega
  · have hl : 58 ≤ N.log2 := by rcases hN with e | e; exact absurd e h0; exact e
    have a := sq_near hl
    have b := log_le h0 h
    have hB : BIN = 4503599627370496 := rfl
    have hsq : sq N < (2 * BIN - 1) * 2 ^ Q32 := by
      rw [hB]
      generalize 2 ^ (N.log2 - 58) = z at *
      generalize 2 ^ Q32 = u at *
      omega
    have c := val_rung_near hsq (by rw [hQ]; omega) (by rw [hQ]; omega)
    generalize 2 ^ (N.log2 - 58) = z at *
    generalize 2 ^ Q32 = u at *
    omega
theorem fDn_lt {m : Nat} (hm : m < 8388608) (k : Nat) : val (fDn m k) < 36028797018963968 * 2 ^ Q32 := by
  have h := (fDn_facts hm k).2
  rw [pE] at h
  have hp : 0 < 2 ^ Q32 := Nat.two_pow_pos _
  have : m * (4294967296 * 2 ^ Q32) ≤ 8388607 * (4294967296 * 2 ^ Q32) := Nat.mul_le_mul_right _ (by omega)
  generalize 2 ^ Q32 = u at *
  omega
theorem fDn_near {m : Nat} (hm : m < 8388608) (k : Nat) : 10 ^ k * val (fDn m k) ≤ m * 2 ^ E3 + 3 * (10 ^ k * 2 ^ Q32) ∧ m * 2 ^ E3 ≤ 10 ^ k * val (fDn m k) + 3 * (10 ^ k * 2 ^ Q32) := by
  induction k with
  | zero =>
    have : val (fDn m 0) = m * 2 ^ E3 := val_rung m E3 (mlt hm) eE1 eE2
    rw [this]; omega
  | succ k ih =>
    have s := step_near (val_log (fDn m k)) (fDn_lt hm k)
    show 10 ^ (k + 1) * val (rung (sq (val (fDn m k)))) ≤ _ ∧ _ ≤ 10 ^ (k + 1) * val (rung (sq (val (fDn m k)))) + _
    generalize val (rung (sq (val (fDn m k)))) = v' at *
    generalize val (fDn m k) = v at *
    generalize m * 2 ^ E3 = M at *
    generalize 2 ^ Q32 = u at *
    rw [Nat.pow_succ]
    generalize 10 ^ k = T at *
    have a := Nat.mul_le_mul_left T s.1
    have b := Nat.mul_le_mul_left T s.2
    rw [Nat.mul_add, Nat.mul_left_comm T 10, Nat.mul_left_comm T 20] at a b
    rw [Nat.mul_comm T 10, Nat.mul_assoc, Nat.mul_assoc]
    generalize T * v = x at *
    generalize T * v' = y at *
    generalize T * u = z at *
    omega
/-- Times a thousand, it is near whatever is near a thousand times what it was. -/
theorem near_dn {m : Nat} (hm : m < 8388608) (k a : Nat) (h1 : 2 * (10 ^ k * a) ≤ 2000 * m + 10 ^ k) (h2 : 2000 * m ≤ 2 * (10 ^ k * a) + 10 ^ k) : val (rung (1000 * val (fDn m k))) ≤ (a + 1) * 2 ^ E3 ∧ a * 2 ^ E3 ≤ val (rung (1000 * val (fDn m k))) + 2 ^ E3 := by
  have n := fDn_near hm k
  have l := fDn_lt hm k
  have hB : BIN = 4503599627370496 := rfl
  have hq : 2 ^ (Q32 + 13) = 8192 * 2 ^ Q32 := by rw [Nat.add_comm, Nat.pow_add]
  have hlt : 1000 * val (fDn m k) < (2 * BIN - 1) * 2 ^ (Q32 + 13) := by
    rw [hq, hB]
    generalize 2 ^ Q32 = u at *
    omega
  have c := val_rung_near hlt (by rw [hQ]; omega) (by rw [hQ]; omega)
  rw [hq] at c
  have hT : 0 < 10 ^ k := Nat.pow_pos (by omega)
  generalize val (rung (1000 * val (fDn m k))) = X at *
  generalize val (fDn m k) = v at *
  have g1 := Nat.mul_le_mul_right (2 ^ E3) h1
  have g2 := Nat.mul_le_mul_right (2 ^ E3) h2
  have pe := pE
  have cc1 := Nat.mul_le_mul_left (10 ^ k) c.1
  have cc2 := Nat.mul_le_mul_left (10 ^ k) c.2
  generalize 2 ^ E3 = E at *
  generalize 2 ^ Q32 = u at *
  generalize 10 ^ k = T at *
  have hu : T * E = 4294967296 * (T * u) := by rw [pe, Nat.mul_left_comm]
  rw [Nat.mul_add, Nat.mul_left_comm T 1000, Nat.mul_left_comm T 8192] at cc1 cc2
  rw [Nat.add_mul, Nat.mul_assoc, Nat.mul_assoc, Nat.mul_assoc] at g1 g2
  have d1 : T * X ≤ T * ((a + 1) * E) := by
    have e : T * ((a + 1) * E) = T * (a * E) + T * E := by rw [Nat.add_mul, Nat.one_mul, Nat.mul_add]
    rw [e]
    generalize T * (a * E) = p at *
    generalize T * X = q at *
    generalize T * v = r at *
    generalize m * E = s at *
    generalize T * u = z at *
    omega
  have d2 : T * (a * E) ≤ T * (X + E) := by
    rw [Nat.mul_add]
    generalize T * (a * E) = p at *
    generalize T * X = q at *
    generalize T * v = r at *
    generalize m * E = s at *
    generalize T * u = z at *
    omega
  exact ⟨Nat.le_of_mul_le_mul_left d1 hT, Nat.le_of_mul_le_mul_left d2 hT⟩
end Fl
end Go.Proofs.Ytjblckljbgelaab
