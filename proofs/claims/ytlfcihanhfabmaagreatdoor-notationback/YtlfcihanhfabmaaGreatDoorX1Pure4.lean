/-
  Plain mathematics: what is written is read.
-/
import Derived.Test.YtlfcihanhfabmaaGreatDoorX1Text
namespace Go.Proofs.YtlfcihanhfabmaaGreatDoor.L1

theorem decDigits_step (u : Nat) (h : ¬ u < 10) : Lib.decDigits u = Lib.decDigits (u / 10) ++ [UInt8.ofNat (48 + u % 10)] := by rw [Lib.decDigits, dif_neg h]
theorem decDigits_one (u : Nat) (h : u < 10) : Lib.decDigits u = [UInt8.ofNat (48 + u)] := by rw [Lib.decDigits, dif_pos h]
theorem ofNat_digit (d : Nat) (h : d < 10) : (UInt8.ofNat (48 + d)).toNat = 48 + d := by
  rw [UInt8.toNat_ofNat', show 2 ^ 8 = 256 from rfl, Nat.mod_eq_of_lt (by omega)]
theorem dig_one (d : Nat) (h : d < 10) : digB [UInt8.ofNat (48 + d)] = true := by
  unfold digB
  simp only [List.all_cons, List.all_nil, ofNat_digit d h, Bool.and_true]
  exact decide_eq_true (by omega)
theorem dec_dig (u : Nat) : digB (Lib.decDigits u) = true := by
  induction u using Nat.strongRecOn with
  | _ u ih =>
    by_cases h : u < 10
    · rw [decDigits_one u h]; exact dig_one u h
    · rw [decDigits_step u h, digB_append, ih (u / 10) (by omega), dig_one _ (by omega)]; rfl
theorem dec_num (u : Nat) : numL (Lib.decDigits u) = u := by
  induction u using Nat.strongRecOn with
  | _ u ih =>
    by_cases h : u < 10
    · rw [decDigits_one u h]
      unfold numL
      simp only [List.foldl_cons, List.foldl_nil, ofNat_digit u h]
      omega
    · rw [decDigits_step u h, numL_snoc, ih (u / 10) (by omega), ofNat_digit _ (by omega)]
      omega
theorem dec_pos (u : Nat) : 1 ≤ (Lib.decDigits u).length := by rw [Lib.decDigits_length]; exact Lib.nDigits_pos u
theorem bt_append (a b : List UInt8) (h : 1 ≤ a.length) : bt (a ++ b) 0 = bt a 0 := by
  unfold bt
  cases a with
  | nil => simp at h
  | cons x a => rfl
theorem dec_head (u : Nat) (h : 1 ≤ u) : bt (Lib.decDigits u) 0 ≠ 48 := by
  induction u using Nat.strongRecOn with
  | _ u ih =>
    by_cases h' : u < 10
    · rw [decDigits_one u h']
      show ((UInt8.ofNat (48 + u)).toNat : Int) ≠ 48
      rw [ofNat_digit u h']; omega
    · rw [decDigits_step u h', bt_append _ _ (dec_pos _)]
      exact ih (u / 10) (by omega) (by omega)
theorem dec_len (k u : Nat) (hu : u < 10 ^ (k + 1)) : (Lib.decDigits u).length ≤ k + 1 := by
  rw [Lib.decDigits_length]
  induction k generalizing u with
  | zero => rw [Lib.nDigits_small (by omega)]; omega
  | succ k ih =>
    by_cases hs : u < 10
    · rw [Lib.nDigits_small hs]; omega
    · rw [Lib.nDigits_big hs]
      have := ih (u / 10) (by rw [Nat.pow_succ] at hu; omega)
      omega
theorem dec_whole (u : Nat) (hu : u < 10000000) : wholeB (Lib.decDigits u) = true := by
  unfold wholeB
  have hl := dec_len 6 u hu
  have hp := dec_pos u
  have hn : ¬ (1 < (Lib.decDigits u).length ∧ bt (Lib.decDigits u) 0 = 48) := by
    intro ⟨h1, h2⟩
    by_cases h0 : u = 0
    · subst h0
      rw [decDigits_one 0 (by decide)] at h1
      simp at h1
    · exact dec_head u (by omega) h2
  rw [if_neg hn]
  unfold areB
  rw [decide_eq_true hp, decide_eq_true hl, dec_dig]; rfl
/-- Digits bear no point and no sign. -/
theorem bef_dig (d r : List UInt8) (h : digB d = true) : befL (d ++ r) = d ++ befL r ∧ aftL (d ++ r) = aftL r ∧ hasB (d ++ r) = hasB r := by
  induction d with
  | nil => exact ⟨rfl, rfl, rfl⟩
  | cons c d ih =>
    unfold digB at h
    rw [List.all_cons, Bool.and_eq_true] at h
    have hc : ¬ c = 46 := by
      intro e; subst e
      have := h.1
      simp at this
    have := ih h.2
    simp only [List.cons_append, befL, aftL, hasB, if_neg hc, this.1, this.2.1, this.2.2]
    exact ⟨trivial, trivial, trivial⟩
theorem neg_dig (d r : List UInt8) (h : digB d = true) (h1 : 1 ≤ d.length) : negB (d ++ r) = false ∧ bodyL (d ++ r) = d ++ r := by
  cases d with
  | nil => simp at h1
  | cons c d =>
    unfold digB at h
    rw [List.all_cons, Bool.and_eq_true] at h
    have hc : (45 == c) = false := by
      rw [beq_eq_false_iff_ne]; intro e; subst e
      have := h.1
      simp at this
    have e : Lib.hasPrefix (c :: d ++ r) [45] = false := by
      unfold Lib.hasPrefix
      simp [List.isPrefixOf, hc]
    unfold negB bodyL Lib.trimPrefix
    rw [e]
    exact ⟨rfl, rfl⟩
theorem neg_minus (l : List UInt8) : negB (45 :: l) = true ∧ bodyL (45 :: l) = l := by
  have e : Lib.hasPrefix (45 :: l) [45] = true := by unfold Lib.hasPrefix; simp [List.isPrefixOf]
  unfold negB bodyL Lib.trimPrefix
  rw [e]
  exact ⟨rfl, rfl⟩
/-- What stands behind the point. -/
theorem part_read (p : Int) (h0 : 0 ≤ p) (h1 : p < 1000) : befL (partL p) = [] ∧ numL (padL (aftL (partL p))) = p ∧ (hasB (partL p) = false ∨ partB (aftL (partL p)) = true) := by
  have a1 := dgB_val (p / 100) (by omega) (by omega)
  have a2 := dgB_val (p % 100 / 10) (by omega) (by omega)
  have a3 := dgB_val (p % 10) (by omega) (by omega)
  have g : ∀ x : Int, 0 ≤ x → x ≤ 9 → decide (48 ≤ (dgB x).toNat ∧ (dgB x).toNat ≤ 57) = true := by
    intro x h2 h3
    have := dgB_val x h2 h3
    exact decide_eq_true (by omega)
  have g1 := g (p / 100) (by omega) (by omega)
  have g2 := g (p % 100 / 10) (by omega) (by omega)
  have g3 := g (p % 10) (by omega) (by omega)
  unfold partL
  by_cases c1 : p = 0
  · subst c1; exact ⟨rfl, by decide, Or.inl rfl⟩
  · rw [if_neg c1]
    by_cases c2 : p % 100 = 0
    · rw [if_pos c2]
      refine ⟨rfl, ?_, Or.inr ?_⟩
      · show numL [dgB (p / 100), 48, 48] = p
        unfold numL
        simp only [List.foldl_cons, List.foldl_nil]
        rw [a1, show ((48 : UInt8).toNat : Int) = 48 from rfl]
        omega
      · show areB [dgB (p / 100)] 3 = true
        unfold areB digB
        simp only [List.all_cons, List.all_nil, g1]
        rfl
    · rw [if_neg c2]
      by_cases c3 : p % 10 = 0
      · rw [if_pos c3]
        refine ⟨rfl, ?_, Or.inr ?_⟩
        · show numL [dgB (p / 100), dgB (p % 100 / 10), 48] = p
          unfold numL
          simp only [List.foldl_cons, List.foldl_nil]
          rw [a1, a2, show ((48 : UInt8).toNat : Int) = 48 from rfl]
          omega
        · show areB [dgB (p / 100), dgB (p % 100 / 10)] 3 = true
          unfold areB digB
          simp only [List.all_cons, List.all_nil, g1, g2]
          rfl
      · rw [if_neg c3]
        refine ⟨rfl, ?_, Or.inr ?_⟩
        · show numL [dgB (p / 100), dgB (p % 100 / 10), dgB (p % 10)] = p
          unfold numL
          simp only [List.foldl_cons, List.foldl_nil]
          rw [a1, a2, a3]
          omega
        · show areB [dgB (p / 100), dgB (p % 100 / 10), dgB (p % 10)] 3 = true
          unfold areB digB
          simp only [List.all_cons, List.all_nil, g1, g2, g3]
          rfl
/-- A text without its sign. -/
theorem body_read (n : Int) (h0 : 0 ≤ n) (h1 : n ≤ 2147483647) :
    numL (befL (Lib.itoa (n / 1000) ++ partL (n % 1000))) * 1000 + numL (padL (aftL (Lib.itoa (n / 1000) ++ partL (n % 1000)))) = n ∧
    wholeB (befL (Lib.itoa (n / 1000) ++ partL (n % 1000))) = true ∧ (hasB (Lib.itoa (n / 1000) ++ partL (n % 1000)) = false ∨ partB (aftL (Lib.itoa (n / 1000) ++ partL (n % 1000))) = true) := by
  have e : Lib.itoa (n / 1000) = Lib.decDigits (n / 1000).toNat := by unfold Lib.itoa; rw [if_neg (by omega)]
  rw [e]
  obtain ⟨k1, k2, k3⟩ := bef_dig (Lib.decDigits (n / 1000).toNat) (partL (n % 1000)) (dec_dig _)
  obtain ⟨p1, p2, p3⟩ := part_read (n % 1000) (by omega) (by omega)
  rw [k1, k2, k3, p1, List.append_nil]
  refine ⟨?_, dec_whole _ (by omega), p3⟩
  rw [dec_num, p2]
  omega
/-- WHAT IS WRITTEN IS READ. -/
theorem read_text (v : Int) : parseV (textL v) = cl v ∧ parseE (textL v) = 0 := by
  have c1 := cl_lo v; have c2 := cl_hi v
  have a0 : 0 ≤ ab (cl v) := by rw [ab_def]; omega
  have a1 : ab (cl v) ≤ 2147483647 := by rw [ab_def]; omega
  obtain ⟨r1, r2, r3⟩ := body_read (ab (cl v)) a0 a1
  have fm : ∀ l, bodyL l = Lib.itoa (ab (cl v) / 1000) ++ partL (ab (cl v) % 1000) → formB l = true ∧ valL l = ab (cl v) := by
    intro l hl
    unfold formB valL
    rw [hl]
    refine ⟨?_, r1⟩
    rw [r2]
    rcases r3 with r3 | r3 <;> simp [r3]
  by_cases hn : cl v < 0
  · have et : textL v = 45 :: (Lib.itoa (ab (cl v) / 1000) ++ partL (ab (cl v) % 1000)) := by unfold textL; rw [if_pos hn]; rfl
    obtain ⟨n1, n2⟩ := neg_minus (Lib.itoa (ab (cl v) / 1000) ++ partL (ab (cl v) % 1000))
    rw [← et] at n1 n2
    obtain ⟨f1, f2⟩ := fm _ n2
    have ev : ab (cl v) = - cl v := by rw [ab_def]; omega
    obtain ⟨g1, g2⟩ := parse_neg f1 n1 (by rw [f2, ev]; omega) (by rw [f2, ev]; omega)
    rw [g1, g2, f2, ev]
    exact ⟨by omega, rfl⟩
  · have et : textL v = Lib.itoa (ab (cl v) / 1000) ++ partL (ab (cl v) % 1000) := by unfold textL; rw [if_neg hn]; rfl
    have e : Lib.itoa (ab (cl v) / 1000) = Lib.decDigits (ab (cl v) / 1000).toNat := by unfold Lib.itoa; rw [if_neg (by omega)]
    obtain ⟨n1, n2⟩ := neg_dig (Lib.decDigits (ab (cl v) / 1000).toNat) (partL (ab (cl v) % 1000)) (dec_dig _) (dec_pos _)
    rw [← e, ← et] at n1 n2
    rw [et] at n2
    rw [← et] at n2
    obtain ⟨f1, f2⟩ := fm _ (n2.trans et)
    have ev : ab (cl v) = cl v := by rw [ab_def]; omega
    obtain ⟨g1, g2⟩ := parse_pos f1 n1 (by rw [f2, ev]; omega)
    rw [g1, g2, f2, ev]
    exact ⟨rfl, rfl⟩
theorem form_val {l : List UInt8} (f : formB l = true) : 0 ≤ valL l := by
  unfold formB at f
  rw [Bool.and_eq_true] at f
  have a1 := areB_parts (whole_are f.1)
  have a2 := aft_dig (l := bodyL l) (by
    have := f.2
    cases h : hasB (bodyL l)
    · exact Or.inl rfl
    · rw [h] at this; exact Or.inr (by simpa using this))
  have n1 := num_bd a1.2.2 a1.2.1
  have n3 := num_bd3 (pad_dig a2.2) (pad_len a2.1)
  unfold valL
  omega
/-- What is read lies within bounds; what isn't read is 0 and an error of the two. -/
theorem parse_cases (l : List UInt8) : (parseE l = 0 ∧ -2147483647 ≤ parseV l ∧ parseV l ≤ 2147483647) ∨ (parseV l = 0 ∧ parseE l = 4) ∨ (parseV l = 0 ∧ parseE l = 9) := by
  cases f : formB l
  · exact Or.inr (Or.inl (parse_form f))
  · have hv := form_val f
    cases h4 : negB l
    · by_cases h6 : 2147483647 < valL l
      · exact Or.inr (Or.inr (parse_bigp f h4 h6))
      · have := parse_pos f h4 h6
        exact Or.inl ⟨this.2, by omega, by omega⟩
    · by_cases h5 : valL l = 0
      · exact Or.inr (Or.inl (parse_zero f h4 h5))
      · by_cases h6 : 2147483647 < valL l
        · exact Or.inr (Or.inr (parse_bign f h4 h6))
        · have := parse_neg f h4 h5 h6
          exact Or.inl ⟨this.2, by omega, by omega⟩
end Go.Proofs.YtlfcihanhfabmaaGreatDoor.L1
