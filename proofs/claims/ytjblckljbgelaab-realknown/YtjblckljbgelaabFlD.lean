/-
  Float, as a plain function of mantissa and exponent: its word, its order, its sign, how near it is to the number in thousandths.
-/
import Derived.Test.YtjblckljbgelaabFlC
import Derived.Test.YtjblckljbgelaabFixP
namespace Go.Proofs.Ytjblckljbgelaab
namespace Fl
open Ieee

/-- The rung of a mantissa with an exponent. -/
def fr (m : Nat) (e : Int) : Nat := if 0 ≤ e then fUp m e.toNat else fDn m (-e).toNat
/-- The word of a mantissa with an exponent. -/
def fl (m e : Int) : Nat := wd (decide (m < 0)) (fr m.natAbs e)
/-- The words on the way up, on the way down. -/
def wUp (m : Int) (k : Nat) : Nat := wd (decide (m < 0)) (fUp m.natAbs k)
def wDn (m : Int) (k : Nat) : Nat := wd (decide (m < 0)) (fDn m.natAbs k)
theorem ten_read : double.read 4621819117588971520 = .number false (5 * 2 ^ 50) (-49) := by decide
theorem ten_read' : double.read 4621819117588971520 = .number false (10 * 2 ^ 49) (-((49 : Nat) : Int)) := by decide
theorem thousand_read : double.read 4652007308841189376 = .number false (1000 * 2 ^ 43) (-((43 : Nat) : Int)) := by decide
theorem nab {m : Int} (h1 : -8388605 ≤ m) (h2 : m ≤ 8388605) : m.natAbs < 8388608 := by omega
theorem wUp_zero (m : Int) : floatOfInt .f64 m = wUp m 0 := ofInt_wd m
theorem wDn_zero (m : Int) : floatOfInt .f64 m = wDn m 0 := ofInt_wd m
theorem wUp_succ {m : Int} (h1 : -8388605 ≤ m) (h2 : m ≤ 8388605) (k : Nat) (hk : k ≤ 200) : floatBits .mul .f64 (wUp m k) 4621819117588971520 = some (wUp m (k + 1)) :=
  mul_lit ten_read' (by omega) _ _ (fUp_facts (nab h1 h2) k hk).1
theorem wDn_succ {m : Int} (h1 : -8388605 ≤ m) (h2 : m ≤ 8388605) (k : Nat) : floatBits .quo .f64 (wDn m k) 4621819117588971520 = some (wDn m (k + 1)) :=
  div10 ten_read _ _ (fDn_facts (nab h1 h2) k).1
theorem fl_up (m : Int) (e : Int) (k : Nat) (h : e = k) : wUp m k = fl m e := by
  unfold wUp fl fr; rw [if_pos (by omega), h]; rfl
theorem fl_dn (m : Int) (e : Int) (k : Nat) (h : e = -(k : Int)) : wDn m k = fl m e := by
  unfold wDn fl fr
  by_cases hz : k = 0
  · subst hz
    rw [if_pos (by omega), h]; rfl
  · rw [if_neg (by omega), show (-e).toNat = k by omega]
theorem fr_fin {m : Nat} {e : Int} (hm : m < 8388608) (he : e ≤ 127) : fr m e < INF := by
  unfold fr
  split
  · exact (fUp_facts hm _ (by omega)).1
  · exact (fDn_facts hm _).1
theorem fr_mono {m n : Nat} (h : m ≤ n) (e : Int) : fr m e ≤ fr n e := by
  unfold fr
  split
  · exact fUp_mono h _
  · exact fDn_mono h _
theorem fr_zero (e : Int) : fr 0 e = 0 := by
  have up : ∀ k, fUp 0 k = 0 := by
    intro k
    induction k with
    | zero => show rung (0 * 2 ^ E3) = 0; rw [Nat.zero_mul, rung_zero]
    | succ k ih => show rung (10 * val (fUp 0 k)) = 0; rw [ih, val_zero, Nat.mul_zero, rung_zero]
  have dn : ∀ k, fDn 0 k = 0 := by
    intro k
    induction k with
    | zero => show rung (0 * 2 ^ E3) = 0; rw [Nat.zero_mul, rung_zero]
    | succ k ih => show rung (sq (val (fDn 0 k))) = 0; rw [ih, val_zero, sq_zero, rung_zero]
  unfold fr
  split
  · exact up _
  · exact dn _

theorem compare_eq (x : Int) : compare x x = .eq := by
  show compareOfLessAndEq x x = .eq
  unfold compareOfLessAndEq; rw [if_neg (by omega), if_pos rfl]
theorem compare_le {x y : Int} (h : x ≤ y) : compare x y = .lt ∨ compare x y = .eq := by
  show compareOfLessAndEq x y = .lt ∨ compareOfLessAndEq x y = .eq
  unfold compareOfLessAndEq
  by_cases h1 : x < y
  · rw [if_pos h1]; exact Or.inl rfl
  · rw [if_neg h1, if_pos (by omega)]; exact Or.inr rfl
theorem compare_ge {x y : Int} (h : y ≤ x) : compare x y = .gt ∨ compare x y = .eq := by
  show compareOfLessAndEq x y = .gt ∨ compareOfLessAndEq x y = .eq
  unfold compareOfLessAndEq
  by_cases h1 : x = y
  · rw [if_neg (by omega), if_pos h1]; exact Or.inr rfl
  · rw [if_neg (by omega), if_neg h1]; exact Or.inl rfl
theorem le_wd {s t : Bool} {r q : Nat} (hr : r < INF) (hq : q < INF) (h : sv s r ≤ sv t q) : (FloatKind.f64.format.order (wd s r) (wd t q) == some .lt || FloatKind.f64.format.order (wd s r) (wd t q) == some .eq) = true := by
  show (double.order (wd s r) (wd t q) == some .lt || double.order (wd s r) (wd t q) == some .eq) = true
  rw [order_wd s t r q hr hq]
  rcases compare_le h with e | e <;> rw [e] <;> rfl
theorem ge_wd {s t : Bool} {r q : Nat} (hr : r < INF) (hq : q < INF) (h : sv t q ≤ sv s r) : (FloatKind.f64.format.order (wd s r) (wd t q) == some .gt || FloatKind.f64.format.order (wd s r) (wd t q) == some .eq) = true := by
  show (double.order (wd s r) (wd t q) == some .gt || double.order (wd s r) (wd t q) == some .eq) = true
  rw [order_wd s t r q hr hq]
  rcases compare_ge h with e | e <;> rw [e] <;> rfl
theorem eq_wd {s t : Bool} {r q : Nat} (hr : r < INF) (hq : q < INF) (h : sv s r = sv t q) : (FloatKind.f64.format.order (wd s r) (wd t q) == some .eq) = true := by
  show (double.order (wd s r) (wd t q) == some .eq) = true
  rw [order_wd s t r q hr hq, h, compare_eq]; rfl
theorem sv_flip (s : Bool) (r : Nat) : sv (!s) r = - sv s r := by unfold sv; cases s <;> simp

/-- A greater mantissa comes to no less. -/
theorem fl_le {m n e : Int} (h : m ≤ n) (h1 : -8388605 ≤ m) (h2 : n ≤ 8388605) (he : e ≤ 127) : (FloatKind.f64.format.order (fl m e) (fl n e) == some .lt || FloatKind.f64.format.order (fl m e) (fl n e) == some .eq) = true := by
  refine le_wd (fr_fin (nab h1 (by omega)) he) (fr_fin (nab (by omega) h2) he) ?_
  unfold sv
  by_cases hm : m < 0
  · by_cases hn : n < 0
    · simp only [hm, hn, decide_true, if_true]
      have := val_mono (fr_mono (show n.natAbs ≤ m.natAbs by omega) e)
      omega
    · simp only [hm, hn, decide_true, decide_false, if_true, Bool.false_eq_true, if_false]
      omega
  · have hn : ¬ n < 0 := by omega
    have := val_mono (fr_mono (show m.natAbs ≤ n.natAbs by omega) e)
    simp only [hm, hn, decide_false, Bool.false_eq_true, if_false]
    omega
theorem neg_wd (s : Bool) (r : Nat) (h : r < INF) : Op.negFloat .f64 (wd s r) = wd (!s) r := by
  have hI : INF = 9218868437227405312 := rfl
  rw [hI] at h
  have h64 : 2 ^ (FloatKind.f64.format.exponentBits + FloatKind.f64.format.fractionBits) = 9223372036854775808 := by decide
  unfold Op.negFloat wd Format.word
  rw [ds, h64]
  have h63 : r < 2 ^ 63 := by have : (2 : Nat) ^ 63 = 9223372036854775808 := by decide
                              omega
  have key : r ^^^ 9223372036854775808 = 9223372036854775808 + r := by
    have a := Nat.two_pow_add_eq_or_of_lt h63 1
    rw [Nat.mul_one] at a
    have : (2 : Nat) ^ 63 = 9223372036854775808 := by decide
    rw [this] at a
    rw [a]
    apply Nat.eq_of_testBit_eq
    intro i
    rw [Nat.testBit_xor, Nat.testBit_or]
    by_cases hi : i < 63
    · have : Nat.testBit 9223372036854775808 i = false := by
        have e : (9223372036854775808 : Nat) = 2 ^ 63 := by decide
        rw [e, Nat.testBit_two_pow]; simp; omega
      rw [this]; simp
    · have : Nat.testBit r i = false := Nat.testBit_lt_two_pow (Nat.lt_of_lt_of_le h63 (Nat.pow_le_pow_right (by omega) (by omega)))
      rw [this]; simp
  cases s
  · simp only [Bool.not_false, if_true]; exact key
  · simp only [Bool.not_true, if_true]
    show (9223372036854775808 + r) ^^^ 9223372036854775808 = r
    rw [← key, Nat.xor_assoc, Nat.xor_self, Nat.xor_zero]
theorem fl_neg {m e : Int} (h1 : -8388605 ≤ m) (h2 : m ≤ 8388605) (he : e ≤ 127) : (FloatKind.f64.format.order (fl (-m) e) (Op.negFloat .f64 (fl m e)) == some .eq) = true := by
  unfold fl
  rw [neg_wd _ _ (fr_fin (nab h1 h2) he), Int.natAbs_neg]
  refine eq_wd (fr_fin (nab h1 h2) he) (fr_fin (nab h1 h2) he) ?_
  by_cases hz : m = 0
  · subst hz
    have : fr (Int.natAbs 0) e = 0 := fr_zero e
    rw [this]
    unfold sv; rw [val_zero]; simp
  · have : decide (-m < 0) = !decide (m < 0) := by
      by_cases hm : m < 0
      · simp [hm]; omega
      · simp [hm]; omega
    rw [this]

theorem one_rung : rung (1 * 2 ^ E3) < INF ∧ val (rung (1 * 2 ^ E3)) = 1 * 2 ^ E3 := ⟨rung_fin 1 E3 one_lt eE2, val_rung 1 E3 one_lt eE1 eE2⟩
theorem int_word (n : Int) (N : Nat) (s : Bool) (b : Nat) (hn : n.natAbs = N) (hs : decide (n < 0) = s) (hb : floatOfInt .f64 n = b) : b = wd s (rung (N * 2 ^ E3)) := by rw [← hb, ofInt_wd, hn, hs]
theorem one_word : (4607182418800017408 : Nat) = wd false (rung (1 * 2 ^ E3)) := int_word 1 1 false _ rfl rfl (by decide)
theorem mone_word : (13830554455654793216 : Nat) = wd true (rung (1 * 2 ^ E3)) := int_word (-1) 1 true _ rfl rfl (by decide)
theorem out_word : (4701866095974285312 : Nat) = wd false (rung (2147483 * 2 ^ E3)) := int_word 2147483 2147483 false _ rfl rfl (by decide)
theorem mout_word : (13925238132829061120 : Nat) = wd true (rung (2147483 * 2 ^ E3)) := int_word (-2147483) 2147483 true _ rfl rfl (by decide)
/-- What is far from a number by at most 1 comes to 1 at most. -/
theorem far_le {s t : Bool} {r q : Nat} (hr : r < INF) (hq : q < INF) (h : (sv s r - sv t q).natAbs ≤ 2 ^ E3) : ∃ f, floatBits .sub .f64 (wd s r) (wd t q) = some f ∧ (FloatKind.f64.format.order f 4607182418800017408 == some .lt || FloatKind.f64.format.order f 4607182418800017408 == some .eq) = true ∧ (FloatKind.f64.format.order f 13830554455654793216 == some .gt || FloatKind.f64.format.order f 13830554455654793216 == some .eq) = true := by
  obtain ⟨g, hg⟩ := sub_wd s t r q hr hq
  have h1 : (sv s r - sv t q).natAbs ≤ 1 * 2 ^ E3 := by rw [Nat.one_mul]; exact h
  have f1 := rung_lt_inf h1 one_lt eE2
  have f2 := val_rung_le h1 one_lt eE1 eE2
  refine ⟨_, hg, ?_, ?_⟩
  · rw [one_word]
    refine le_wd f1 one_rung.1 ?_
    unfold sv at f2 ⊢
    rw [one_rung.2]
    cases g
    · simp only [Bool.false_eq_true, if_false]; exact Int.ofNat_le.2 f2
    · simp only [Bool.false_eq_true, if_false, if_true]; omega
  · rw [mone_word]
    refine ge_wd f1 one_rung.1 ?_
    unfold sv at f2 ⊢
    rw [one_rung.2]
    cases g
    · simp only [Bool.false_eq_true, if_false, if_true]; omega
    · simp only [if_true]; exact Int.neg_le_neg (Int.ofNat_le.2 f2)

/-- A thousand times a float. -/
theorem mul1000 {m e : Int} (h1 : -8388605 ≤ m) (h2 : m ≤ 8388605) (he : e ≤ 127) : floatBits .mul .f64 (fl m e) 4652007308841189376 = some (wd (decide (m < 0)) (rung (1000 * val (fr m.natAbs e)))) :=
  mul_lit thousand_read (by omega) _ _ (fr_fin (nab h1 h2) he)
theorem sv_near {s : Bool} {X A : Nat} {D : Nat} (h1 : X ≤ A + D) (h2 : A ≤ X + D) : ((if s then -(X : Int) else (X : Int)) - (if s then -(A : Int) else (A : Int))).natAbs ≤ D := by
  cases s <;> simp <;> omega
/-- Near, of numbers without a sign: up. -/
theorem near_up {m : Nat} {e : Int} (hm : m ≤ 8388605) (h0 : 0 ≤ e) (hb : fixZ (m : Int) e < 2147483647) : ∃ a : Nat, fixZ (m : Int) e = a ∧ a < 2147483647 ∧ rung (1000 * val (fr m e)) < INF ∧ val (rung (1000 * val (fr m e))) = a * 2 ^ E3 := by
  by_cases hz : m = 0
  · subst hz
    refine ⟨0, ?_, by omega, ?_, ?_⟩
    · have := fix_zero e; simpa using this
    · rw [fr_zero, val_zero, Nat.mul_zero, rung_zero]; decide
    · rw [fr_zero, val_zero, Nat.mul_zero, rung_zero, val_zero, Nat.zero_mul]
  · obtain ⟨k, hk⟩ : ∃ k : Nat, e = k := ⟨e.toNat, by omega⟩
    subst hk
    have hj : (k : Int) + 3 = ((k + 3 : Nat) : Int) := by omega
    have in_bd : (m : Int) * tp (k + 3) ≤ 2147483647 ∧ k + 3 ≤ 9 := by
      by_cases hk9 : k + 3 ≤ 9
      · refine ⟨?_, hk9⟩
        by_cases hc : (m : Int) * tp (k + 3) ≤ 2147483647
        · exact hc
        · exfalso
          have := fix_up_hi (m : Int) k (k + 3) (by omega) (by omega) (by omega) (by omega) (by omega)
          omega
      · exfalso
        have h10 : (m : Int) * 10000000000 > 2147483647 := by omega
        have := fix_up_hi (m : Int) k 10 (by omega) (by omega) (by omega) (by omega) (by rw [tp_10]; omega)
        omega
    have hT : tp (k + 3) = ((10 ^ (k + 3) : Nat) : Int) := by unfold tp; rw [Int.natCast_pow]; rfl
    have hF := fix_up_in (m : Int) k (k + 3) (by omega) (by omega) hj in_bd.2 (by have := Int.mul_nonneg (show 0 ≤ (m : Int) by omega) (show 0 ≤ tp (k + 3) by have := tp_pos (k + 3); omega); omega) in_bd.1
    rw [hT, ← Int.natCast_mul] at hF
    have hle : m * 10 ^ (k + 3) ≤ 2147483647 := by have := in_bd.1; rw [hT, ← Int.natCast_mul] at this; omega
    have h3 : m * 10 ^ (k + 3) = 1000 * (m * 10 ^ k) := by
      rw [Nat.pow_add, ← Nat.mul_assoc, Nat.mul_comm]
    have hB : BIN = 4503599627370496 := rfl
    have hex := fUp_exact (m := m) k (by rw [hB]; omega)
    have hfr : fr m (k : Int) = fUp m k := by unfold fr; rw [if_pos (by omega)]; rfl
    refine ⟨m * 10 ^ (k + 3), hF, by omega, ?_, ?_⟩
    · rw [hfr, hex, ← Nat.mul_assoc, ← h3]; exact rung_fin _ E3 (by rw [hB]; omega) eE2
    · rw [hfr, hex, ← Nat.mul_assoc, ← h3]; exact val_rung _ E3 (by rw [hB]; omega) eE1 eE2
end Fl
end Go.Proofs.Ytjblckljbgelaab
