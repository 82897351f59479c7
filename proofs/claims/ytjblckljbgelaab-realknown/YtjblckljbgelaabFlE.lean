/-
  A float times a thousand is the number in thousandths, but for 1; beyond the bounds it is beyond them.
-/
import Derived.Test.YtjblckljbgelaabFlD
namespace Go.Proofs.Ytjblckljbgelaab
namespace Fl
open Ieee

theorem tp_nat (k : Nat) : tp k = ((10 ^ k : Nat) : Int) := by unfold tp; rw [Int.natCast_pow]; rfl
theorem rd_nonneg {m P : Int} (hm : 0 ≤ m) (hP : 0 < P) : 0 ≤ rd m P := by rw [rd_pp m P hm hP]; exact up_nonneg m P hm hP
theorem near_dnz {m : Nat} {e : Int} (hm : m ≤ 8388605) (h0 : e < 0) : ∃ a : Nat, fixZ (m : Int) e = a ∧ a < 2147483647 ∧ rung (1000 * val (fr m e)) < INF ∧ val (rung (1000 * val (fr m e))) ≤ (a + 1) * 2 ^ E3 ∧ a * 2 ^ E3 ≤ val (rung (1000 * val (fr m e))) + 2 ^ E3 := by
  obtain ⟨k, hk⟩ : ∃ k : Nat, e = -(k : Int) := ⟨(-e).toNat, by omega⟩
  have hB : BIN = 4503599627370496 := rfl
  have hfr : fr m e = fDn m k := by unfold fr; rw [if_neg (by omega), show (-e).toNat = k by omega]
  rw [hfr]
  have hfin : rung (1000 * val (fDn m k)) < INF := by
    have h := (fDn_facts (m := m) (by omega) k).2
    have : 1000 * val (fDn m k) ≤ (1000 * m) * 2 ^ E3 := by rw [Nat.mul_assoc]; exact Nat.mul_le_mul_left _ h
    exact rung_lt_inf this (by rw [hB]; omega) eE2
  have fin : ∀ a : Nat, 2 * (10 ^ k * a) ≤ 2000 * m + 10 ^ k → 2000 * m ≤ 2 * (10 ^ k * a) + 10 ^ k → val (rung (1000 * val (fDn m k))) ≤ (a + 1) * 2 ^ E3 ∧ a * 2 ^ E3 ≤ val (rung (1000 * val (fDn m k))) + 2 ^ E3 :=
    fun a x y => near_dn (by omega) k a x y
  by_cases h3 : k ≤ 3
  · have hup := fix_up_in (m : Int) e (3 - k) (by omega) (by omega) (by omega) (by omega)
    have hpw : 10 ^ (3 - k) ≤ 10 ^ 2 := Nat.pow_le_pow_right (by omega) (by omega)
    have hT : 10 ^ k * (m * 10 ^ (3 - k)) = 1000 * m := by
      rw [Nat.mul_left_comm, ← Nat.pow_add, show k + (3 - k) = 3 by omega, Nat.mul_comm]
    have hle : m * 10 ^ (3 - k) ≤ m * 100 := Nat.mul_le_mul_left _ hpw
    rw [tp_nat, ← Int.natCast_mul] at hup
    exact ⟨m * 10 ^ (3 - k), hup (by omega) (by omega), by omega, hfin, fin _ (by rw [hT]; generalize 10 ^ k = T; omega) (by rw [hT]; generalize 10 ^ k = T; omega)⟩
  · by_cases h9 : 9 ≤ -3 - e
    · have hz := fix_dn_far (m : Int) e (by omega) (by omega) h9
      have hT : 10 ^ 12 ≤ 10 ^ k := Nat.pow_le_pow_right (by omega) (by omega)
      have h12 : (10 : Nat) ^ 12 = 1000000000000 := by decide
      exact ⟨0, by rw [hz]; rfl, by omega, hfin, fin 0 (by omega) (by omega)⟩
    · obtain ⟨j, hj⟩ : ∃ j : Nat, -3 - e = j := ⟨(-3 - e).toNat, by omega⟩
      have hd := fix_dn_in (m : Int) e j (by omega) (by omega) hj (by omega)
      have hn := rd_near (m : Int) (tp j) (tp_pos j)
      have h0' := rd_nonneg (m := (m : Int)) (by omega) (tp_pos j)
      have hb := rd_le (m : Int) (tp j) (tp_pos j)
      obtain ⟨a, ha⟩ := Int.eq_ofNat_of_zero_le h0'
      rw [ha] at hn hd hb
      have hT : 10 ^ k = 1000 * 10 ^ j := by rw [show k = 3 + j by omega, Nat.pow_add]
      rw [tp_nat, ← Int.natCast_mul] at hn
      have e1 : 10 ^ k * a = 1000 * (10 ^ j * a) := by rw [hT, Nat.mul_assoc]
      generalize 10 ^ j * a = p at *
      generalize 10 ^ j = q at *
      exact ⟨a, hd, by omega, hfin, fin a (by omega) (by omega)⟩
theorem near_all {m : Nat} {e : Int} (hm : m ≤ 8388605) (hb : fixZ (m : Int) e < 2147483647) : ∃ a : Nat, fixZ (m : Int) e = a ∧ a < 2147483647 ∧ rung (1000 * val (fr m e)) < INF ∧ val (rung (1000 * val (fr m e))) ≤ (a + 1) * 2 ^ E3 ∧ a * 2 ^ E3 ≤ val (rung (1000 * val (fr m e))) + 2 ^ E3 := by
  by_cases h0 : e < 0
  · exact near_dnz hm h0
  · obtain ⟨a, x1, x2, x3, x4⟩ := near_up hm (by omega) hb
    exact ⟨a, x1, x2, x3, by rw [x4]; exact Nat.mul_le_mul_right _ (by omega), by rw [x4]; exact Nat.le_add_right _ _⟩
theorem sv_int (a : Int) (h : a.natAbs < 2147483647) : rung (a.natAbs * 2 ^ E3) < INF ∧ sv (decide (a < 0)) (rung (a.natAbs * 2 ^ E3)) = a * ((2 ^ E3 : Nat) : Int) := by
  have hB : BIN = 4503599627370496 := rfl
  have hl : a.natAbs < 2 * BIN := by rw [hB]; omega
  refine ⟨rung_fin _ E3 hl eE2, ?_⟩
  unfold sv
  rw [val_rung _ E3 hl eE1 eE2, Int.natCast_mul]
  by_cases hs : a < 0
  · simp only [hs, decide_true, if_true]
    rw [← Int.neg_mul]; congr 1; omega
  · simp only [hs, decide_false, Bool.false_eq_true, if_false]
    congr 1; omega
theorem key_near (s : Bool) (r a E : Nat) (h1 : val r ≤ (a + 1) * E) (h2 : a * E ≤ val r + E) : (sv s r - (if s = true then -(a : Int) else (a : Int)) * (E : Int)).natAbs ≤ E := by
  unfold sv
  rw [Nat.add_mul, Nat.one_mul] at h1
  have e : (a : Int) * (E : Int) = ((a * E : Nat) : Int) := by rw [Int.natCast_mul]
  generalize val r = X at *
  cases s
  · simp only [Bool.false_eq_true, if_false]
    rw [e]
    generalize a * E = p at *
    omega
  · simp only [if_true]
    rw [Int.neg_mul, e]
    generalize a * E = p at *
    omega
/-- In bounds, a float times 1000 is the number in thousandths but for 1. -/
theorem fl_near {m e : Int} (h1 : -8388605 ≤ m) (h2 : m ≤ 8388605) (he : e ≤ 127) (b1 : -2147483647 < fixZ m e) (b2 : fixZ m e < 2147483647) : ∃ x f, floatBits .mul .f64 (fl m e) 4652007308841189376 = some x ∧ floatBits .sub .f64 x (floatOfInt .f64 (fixZ m e)) = some f ∧ (FloatKind.f64.format.order f 4607182418800017408 == some .lt || FloatKind.f64.format.order f 4607182418800017408 == some .eq) = true ∧ (FloatKind.f64.format.order f 13830554455654793216 == some .gt || FloatKind.f64.format.order f 13830554455654793216 == some .eq) = true := by
  have hmul := mul1000 h1 h2 he
  have hab : fixZ (m.natAbs : Int) e = if m < 0 then - fixZ m e else fixZ m e := by
    by_cases hs : m < 0
    · rw [if_pos hs, show (m.natAbs : Int) = -m by omega, fix_neg m e h1 h2]
    · rw [if_neg hs, show (m.natAbs : Int) = m by omega]
  obtain ⟨a, x1, x2, x3, x4, x5⟩ := near_all (m := m.natAbs) (e := e) (by omega) (by rw [hab]; split <;> omega)
  rw [hab] at x1
  have hia := sv_int (fixZ m e) (by split at x1 <;> omega)
  have e1 : fixZ m e = if decide (m < 0) = true then -(a : Int) else (a : Int) := by
    by_cases hs : m < 0
    · rw [if_pos hs] at x1
      rw [if_pos (by simp [hs])]; omega
    · rw [if_neg hs] at x1
      rw [if_neg (by simp [hs])]; exact x1
  have key : (sv (decide (m < 0)) (rung (1000 * val (fr m.natAbs e))) - sv (decide (fixZ m e < 0)) (rung ((fixZ m e).natAbs * 2 ^ E3))).natAbs ≤ 2 ^ E3 := by
    rw [hia.2, e1]
    exact key_near _ _ a _ x4 x5
  obtain ⟨f, f1, f2, f3⟩ := far_le x3 hia.1 key
  exact ⟨_, f, hmul, by rw [ofInt_wd]; exact f1, f2, f3⟩
theorem out_nat {m : Nat} {e : Int} (hm : m ≤ 8388605) (he : e ≤ 127) (hb : 2147483647 ≤ fixZ (m : Int) e) : 2147483 * 2 ^ E3 ≤ val (fr m e) := by
  have hB : BIN = 4503599627370496 := rfl
  by_cases h0 : e < 0
  · obtain ⟨a, x1, x2, _⟩ := near_dnz hm h0
    omega
  · obtain ⟨k, hk⟩ : ∃ k : Nat, e = k := ⟨e.toNat, by omega⟩
    subst hk
    have hm0 : 1 ≤ m := by
      by_cases hz : m = 0
      · subst hz
        have : fixZ ((0 : Nat) : Int) k = 0 := fix_zero k
        omega
      · omega
    have hfr : fr m (k : Int) = fUp m k := by unfold fr; rw [if_pos (by omega)]; rfl
    rw [hfr]
    by_cases h7 : k < 7
    · have hpw : 10 ^ k ≤ 10 ^ 6 := Nat.pow_le_pow_right (by omega) (by omega)
      have h6 : (10 : Nat) ^ 6 = 1000000 := by decide
      have hle : m * 10 ^ k ≤ 8388605 * 1000000 := Nat.mul_le_mul hm (by omega)
      rw [fUp_exact k (by rw [hB]; omega)]
      refine Nat.mul_le_mul_right _ ?_
      have h3 : m * 10 ^ (k + 3) = 1000 * (m * 10 ^ k) := by
        rw [Nat.pow_add, ← Nat.mul_assoc, Nat.mul_comm]
      by_cases hc : m * 10 ^ (k + 3) ≤ 2147483647
      · have hF := fix_up_in (m : Int) k (k + 3) (by omega) (by omega) (by omega) (by omega)
        rw [tp_nat, ← Int.natCast_mul] at hF
        have hF := hF (by omega) (by omega)
        omega
      · omega
    · obtain ⟨d, hd⟩ : ∃ d, k = 7 + d := ⟨k - 7, by omega⟩
      rw [hd]
      have := fUp_far (m := m) (by omega) hm0 d (by omega)
      refine Nat.le_trans (Nat.mul_le_mul_right _ (by omega)) this
theorem out_rung : rung (2147483 * 2 ^ E3) < INF ∧ val (rung (2147483 * 2 ^ E3)) = 2147483 * 2 ^ E3 := by
  have hB : BIN = 4503599627370496 := rfl
  have hl : 2147483 < 2 * BIN := by rw [hB]; omega
  exact ⟨rung_fin _ E3 hl eE2, val_rung _ E3 hl eE1 eE2⟩
theorem compare_lt {x y : Int} (h : x < y) : compare x y = .lt := by
  show compareOfLessAndEq x y = .lt
  unfold compareOfLessAndEq; rw [if_pos h]
/-- Beyond the upper bound. -/
theorem fl_hi {m e : Int} (h1 : -8388605 ≤ m) (h2 : m ≤ 8388605) (he : e ≤ 127) (hb : 2147483647 ≤ fixZ m e) : (FloatKind.f64.format.order (fl m e) 4701866095974285312 == some .gt || FloatKind.f64.format.order (fl m e) 4701866095974285312 == some .eq) = true := by
  have hs : ¬ m < 0 := by
    intro hs
    have := fix_mono m 0 e (by omega)
    rw [fix_zero] at this; omega
  have hn : ((m.natAbs : Nat) : Int) = m := by omega
  have ho := out_nat (m := m.natAbs) (e := e) (by omega) he (by rw [hn]; exact hb)
  unfold fl
  rw [out_word]
  refine ge_wd (fr_fin (nab h1 h2) he) out_rung.1 ?_
  unfold sv
  rw [out_rung.2]
  simp only [hs, decide_false, Bool.false_eq_true, if_false]
  exact Int.ofNat_le.2 ho
theorem fl_lo {m e : Int} (h1 : -8388605 ≤ m) (h2 : m ≤ 8388605) (he : e ≤ 127) (hb : fixZ m e ≤ -2147483647) : (FloatKind.f64.format.order (fl m e) 4701866095974285312 == some .gt || FloatKind.f64.format.order (fl m e) 4701866095974285312 == some .eq) = false ∧ (FloatKind.f64.format.order (fl m e) 13925238132829061120 == some .lt || FloatKind.f64.format.order (fl m e) 13925238132829061120 == some .eq) = true := by
  have hs : m < 0 := by
    by_cases hs : m < 0
    · exact hs
    · exfalso
      have := fix_mono 0 m e (by omega)
      rw [fix_zero] at this; omega
  have hn : ((m.natAbs : Nat) : Int) = -m := by omega
  have ho := out_nat (m := m.natAbs) (e := e) (by omega) he (by rw [hn, fix_neg m e h1 h2]; omega)
  have hp : 0 < 2147483 * 2 ^ E3 := Nat.mul_pos (by omega) (Nat.two_pow_pos _)
  unfold fl
  constructor
  · rw [out_word]
    show (double.order (wd (decide (m < 0)) (fr m.natAbs e)) (wd false (rung (2147483 * 2 ^ E3))) == some .gt || double.order (wd (decide (m < 0)) (fr m.natAbs e)) (wd false (rung (2147483 * 2 ^ E3))) == some .eq) = false
    rw [order_wd _ _ _ _ (fr_fin (nab h1 h2) he) out_rung.1, compare_lt]
    · rfl
    · unfold sv
      rw [out_rung.2]
      simp only [hs, decide_true, Bool.false_eq_true, if_false, if_true]
      generalize 2147483 * 2 ^ E3 = z at *
      omega
  · rw [mout_word]
    refine le_wd (fr_fin (nab h1 h2) he) out_rung.1 ?_
    unfold sv
    rw [out_rung.2]
    simp only [hs, decide_true, if_true]
    exact Int.neg_le_neg (Int.ofNat_le.2 ho)
/-- A word that is no number. -/
def NaN (b : Nat) : Prop := ∃ s f, double.read b = .nan s f
theorem nan_order {a b : Nat} (h : NaN a) : FloatKind.f64.format.order a b = none := by
  obtain ⟨s, f, h⟩ := h
  show double.order a b = none
  unfold Format.order; rw [h]; rfl
/-- Two words that 'same' takes for the same. -/
def Good (a : Nat) : Prop := FloatKind.f64.format.order a a = some .eq ∧ (FloatKind.f64.format.order a 0 = some .eq → ∃ q, floatBits .quo .f64 4607182418800017408 a = some q ∧ FloatKind.f64.format.order q q = some .eq)
def Same (a b : Nat) : Prop := (NaN a ∧ NaN b) ∨ (a = b ∧ Good a)
theorem zero_word : (0 : Nat) = wd false 0 := by decide
theorem good_wd (s : Bool) (r : Nat) (h : r < INF) : Good (wd s r) := by
  have hI : (0 : Nat) < INF := by decide
  constructor
  · show double.order (wd s r) (wd s r) = some .eq
    rw [order_wd s s r r h h, compare_eq]
  · intro h0
    have h0 : double.order (wd s r) 0 = some .eq := h0
    rw [zero_word, order_wd s false r 0 h hI] at h0
    have hv : val r = 0 := by
      have h1 : compare (sv s r) (sv false 0) = .eq := by injection h0
      have h2 : compareOfLessAndEq (sv s r) (sv false 0) = .eq := h1
      unfold compareOfLessAndEq at h2
      have h3 : sv s r = sv false 0 := by
        split at h2
        · cases h2
        · split at h2
          · assumption
          · cases h2
      unfold sv at h3
      rw [val_zero] at h3
      cases s <;> simp at h3 <;> omega
    have hm : mg r = 0 := by
      unfold val at hv
      have := Nat.two_pow_pos (sh r)
      rcases Nat.mul_eq_zero.1 hv with h | h
      · exact h
      · omega
    have hone : double.read 4607182418800017408 = .number false 4503599627370496 (-52) := by decide
    refine ⟨wd s INF, ?_, ?_⟩
    · show double.div 4607182418800017408 (wd s r) = some (wd s INF)
      unfold Format.div
      rw [hone, read_wd s r h, hm]
      show some (double.word (false ^^ s) double.infRung) = some (double.word s INF)
      rw [di, Bool.false_xor]
    · show double.order (wd s INF) (wd s INF) = some .eq
      cases s <;> decide
theorem good_fl {m e : Int} (h1 : -8388605 ≤ m) (h2 : m ≤ 8388605) (he : e ≤ 127) : Good (fl m e) := good_wd _ _ (fr_fin (nab h1 h2) he)
theorem good_inf (s : Bool) : Good (wd s INF) := by
  constructor
  · show double.order (wd s INF) (wd s INF) = some .eq
    cases s <;> decide
  · intro h0
    have h0 : double.order (wd s INF) 0 = some .eq := h0
    exfalso
    revert h0
    cases s <;> decide
theorem inf_word : (9218868437227405312 : Nat) = wd false INF := by decide
theorem minf_word : (18442240474082181120 : Nat) = wd true INF := by decide
end Fl
end Go.Proofs.Ytjblckljbgelaab
