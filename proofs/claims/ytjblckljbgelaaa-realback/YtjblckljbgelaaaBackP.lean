/-
  What is packed says what it was: the plain facts.
-/
import Derived.Test.YtjblckljbgelaaaPack
namespace Go.Proofs.Ytjblckljbgelaaa
theorem kd_s {m : Int} (h1 : -2045 ≤ m) (h2 : m ≤ 2045) : kd m 2048 = 0 := by
  unfold kd; rw [if_neg (by omega), if_neg (by omega), if_neg (by omega), if_neg (by omega), if_neg (by omega)]
theorem kd_l {m : Int} (h1 : -8388605 ≤ m) (h2 : m ≤ 8388605) : kd m 8388608 = 0 := by
  unfold kd; rw [if_neg (by omega), if_neg (by omega), if_neg (by omega), if_neg (by omega), if_neg (by omega)]
/-- What the packed bits say. -/
theorem short_pack {k m e : Int} (hm : mayB k m e = true) (hs : fitS m e = true) : shK (pbS k m e) = k ∧ shM (pbS k m e) = m ∧ shE (pbS k m e) = e := by
  obtain ⟨s1, s2, s3, s4⟩ := fitS_iff.1 hs
  have hmo := mo_bd_s (k := k) (m := m) (by omega) (by omega)
  have e1 : mS (pbS k m e) = mo k m 2048 := by unfold mS pbS sgd; split <;> omega
  have e2 : eS (pbS k m e) = e := by unfold eS pbS sgd; split <;> omega
  unfold shK shM shE
  rw [e1, e2]
  rcases mayB_iff.1 hm with ⟨rfl, _⟩ | ⟨k1, k2, rfl, rfl⟩
  · rw [mo_zero]
    exact s_num (kd_s s1 s2)
  · rcases (by omega : k = 1 ∨ k = 2 ∨ k = 3 ∨ k = 4 ∨ k = 5) with rfl | rfl | rfl | rfl | rfl <;> decide
theorem long_pack {k m e : Int} (hm : mayB k m e = true) : loK (pbL k m e) = k ∧ loM (pbL k m e) = m ∧ loE (pbL k m e) = e := by
  obtain ⟨s1, s2, s3, s4⟩ := may_e hm
  have hmo := mo_bd_l (k := k) (m := m) (by omega) (by omega)
  have e1 : mL (pbL k m e) = mo k m 8388608 := by unfold mL pbL sgd; split <;> omega
  have e2 : eL (pbL k m e) = e := by unfold eL pbL sgd; split <;> omega
  unfold loK loM loE
  rw [e1, e2]
  rcases mayB_iff.1 hm with ⟨rfl, _⟩ | ⟨k1, k2, rfl, rfl⟩
  · rw [mo_zero]
    exact s_num (kd_l s1 s2)
  · rcases (by omega : k = 1 ∨ k = 2 ∨ k = 3 ∨ k = 4 ∨ k = 5) with rfl | rfl | rfl | rfl | rfl <;> decide
theorem pbS_bd (k m e : Int) : 0 ≤ pbS k m e ∧ pbS k m e ≤ 65535 := by unfold pbS; omega
theorem pbL_bd (k m e : Int) : 0 ≤ pbL k m e ∧ pbL k m e ≤ 4294967295 := by unfold pbL; omega
theorem kd_cases (m M : Int) : (kd m M = 1 ∧ m = M - 1) ∨ (kd m M = 2 ∧ m = -M) ∨ (kd m M = 3 ∧ m = M - 2) ∨ (kd m M = 4 ∧ m = -M + 2) ∨ (kd m M = 5 ∧ m = -M + 1) ∨ (kd m M = 0 ∧ m ≠ M - 1 ∧ m ≠ -M ∧ m ≠ M - 2 ∧ m ≠ -M + 2 ∧ m ≠ -M + 1) := by
  unfold kd
  split
  · exact Or.inl ⟨rfl, by assumption⟩
  · split
    · exact Or.inr (Or.inl ⟨rfl, by assumption⟩)
    · split
      · exact Or.inr (Or.inr (Or.inl ⟨rfl, by assumption⟩))
      · split
        · exact Or.inr (Or.inr (Or.inr (Or.inl ⟨rfl, by assumption⟩)))
        · split
          · exact Or.inr (Or.inr (Or.inr (Or.inr (Or.inl ⟨rfl, by assumption⟩))))
          · exact Or.inr (Or.inr (Or.inr (Or.inr (Or.inr ⟨rfl, by assumption, by assumption, by assumption, by assumption, by assumption⟩))))
/-- What bits say may be, and is packed as they were unless they are reserved. -/
theorem short_says {x : Int} (h1 : 0 ≤ x) (h2 : x ≤ 65535) : mayB (shK x) (shM x) (shE x) = true ∧ fitS (shM x) (shE x) = true ∧ (shK x ≠ 5 → pbS (shK x) (shM x) (shE x) = x) := by
  have bm : -2048 ≤ mS x ∧ mS x ≤ 2047 := by unfold mS sgd; split <;> omega
  have be : -8 ≤ eS x ∧ eS x ≤ 7 := by unfold eS sgd; split <;> omega
  have back : (eS x * 4096 + mS x % 4096) % 65536 = x := by unfold eS mS sgd; split <;> split <;> omega
  unfold shK shM shE
  rw [mayB_iff, fitS_iff]
  by_cases h0 : kd (mS x) 2048 = 0
  · obtain ⟨e1, e2, e3⟩ := s_num (e := eS x) h0
    rw [e1, e2, e3]
    have hc := kd_cases (mS x) 2048
    refine ⟨by omega, by omega, fun _ => ?_⟩
    unfold pbS; rw [mo_zero]; exact back
  · by_cases he : eS x = 0
    · rw [he]
      obtain ⟨e1, e2, e3⟩ := s_zero (m := mS x) (M := 2048) h0
      rw [e1, e2, e3]
      have hc := kd_cases (mS x) 2048
      refine ⟨by omega, by omega, fun h5 => ?_⟩
      rw [he] at back
      unfold pbS
      have hmo : mo (kd (mS x) 2048) 0 2048 = mS x := by
        rcases hc with ⟨q, r⟩ | ⟨q, r⟩ | ⟨q, r⟩ | ⟨q, r⟩ | ⟨q, r⟩ | ⟨q, _⟩
        · rw [q, r]; rfl
        · rw [q, r]; rfl
        · rw [q, r]; rfl
        · rw [q, r]; rfl
        · exact absurd q h5
        · exact absurd q h0
      rw [hmo]; exact back
    · obtain ⟨e1, e2, e3⟩ := s_other (m := mS x) (M := 2048) h0 he
      rw [e1, e2, e3]
      exact ⟨by omega, by omega, fun h5 => absurd rfl h5⟩
theorem long_says {x : Int} (h1 : 0 ≤ x) (h2 : x ≤ 4294967295) : mayB (loK x) (loM x) (loE x) = true ∧ (loK x ≠ 5 → pbL (loK x) (loM x) (loE x) = x) := by
  have bm : -8388608 ≤ mL x ∧ mL x ≤ 8388607 := by unfold mL sgd; split <;> omega
  have be : -128 ≤ eL x ∧ eL x ≤ 127 := by unfold eL sgd; split <;> omega
  have back : (eL x * 16777216 + mL x % 16777216) % 4294967296 = x := by unfold eL mL sgd; split <;> split <;> omega
  unfold loK loM loE
  rw [mayB_iff]
  by_cases h0 : kd (mL x) 8388608 = 0
  · obtain ⟨e1, e2, e3⟩ := s_num (e := eL x) h0
    rw [e1, e2, e3]
    have hc := kd_cases (mL x) 8388608
    refine ⟨by omega, fun _ => ?_⟩
    unfold pbL; rw [mo_zero]; exact back
  · by_cases he : eL x = 0
    · rw [he]
      obtain ⟨e1, e2, e3⟩ := s_zero (m := mL x) (M := 8388608) h0
      rw [e1, e2, e3]
      have hc := kd_cases (mL x) 8388608
      refine ⟨by omega, fun h5 => ?_⟩
      rw [he] at back
      unfold pbL
      have hmo : mo (kd (mL x) 8388608) 0 8388608 = mL x := by
        rcases hc with ⟨q, r⟩ | ⟨q, r⟩ | ⟨q, r⟩ | ⟨q, r⟩ | ⟨q, r⟩ | ⟨q, _⟩
        · rw [q, r]; rfl
        · rw [q, r]; rfl
        · rw [q, r]; rfl
        · rw [q, r]; rfl
        · exact absurd q h5
        · exact absurd q h0
      rw [hmo]; exact back
    · obtain ⟨e1, e2, e3⟩ := s_other (m := mL x) (M := 8388608) h0 he
      rw [e1, e2, e3]
      exact ⟨by omega, fun h5 => absurd rfl h5⟩
end Go.Proofs.Ytjblckljbgelaaa
