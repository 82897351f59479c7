/-
  fits, isNumber, mayBe, and the document's May: which reals may be.
-/
import Derived.Test.YtgapnimicaopcaaGreatR2Base
namespace Go.Proofs.YtgapnimicaopcaaGreat.L2
open Go.RowKit
/-- Do a mantissa and an exponent fit 32 bits, 16 bits? -/
def fitL (m e : Int) : Bool := decide (-8388605 ≤ m ∧ m ≤ 8388605 ∧ -128 ≤ e ∧ e ≤ 127)
def fitS (m e : Int) : Bool := decide (-2045 ≤ m ∧ m ≤ 2045 ∧ -8 ≤ e ∧ e ≤ 7)
/-- A number that may be; a real that may be. -/
def numB (k m e : Int) : Bool := decide (k = 0) && fitL m e
def mayB (k m e : Int) : Bool := decide ((k = 0 ∧ -8388605 ≤ m ∧ m ≤ 8388605 ∧ -128 ≤ e ∧ e ≤ 127) ∨ (1 ≤ k ∧ k ≤ 5 ∧ m = 0 ∧ e = 0))
theorem fitL_iff {m e : Int} : fitL m e = true ↔ (-8388605 ≤ m ∧ m ≤ 8388605 ∧ -128 ≤ e ∧ e ≤ 127) := by unfold fitL; simp
theorem fitS_iff {m e : Int} : fitS m e = true ↔ (-2045 ≤ m ∧ m ≤ 2045 ∧ -8 ≤ e ∧ e ≤ 7) := by unfold fitS; simp
theorem fitL_no {m e : Int} : fitL m e = false ↔ ¬ (-8388605 ≤ m ∧ m ≤ 8388605 ∧ -128 ≤ e ∧ e ≤ 127) := by rw [← fitL_iff]; simp
theorem fitS_no {m e : Int} : fitS m e = false ↔ ¬ (-2045 ≤ m ∧ m ≤ 2045 ∧ -8 ≤ e ∧ e ≤ 7) := by rw [← fitS_iff]; simp
theorem mayB_iff {k m e : Int} : mayB k m e = true ↔ ((k = 0 ∧ -8388605 ≤ m ∧ m ≤ 8388605 ∧ -128 ≤ e ∧ e ≤ 127) ∨ (1 ≤ k ∧ k ≤ 5 ∧ m = 0 ∧ e = 0)) := by unfold mayB; simp
theorem mayB_no {k m e : Int} : mayB k m e = false ↔ ¬ ((k = 0 ∧ -8388605 ≤ m ∧ m ≤ 8388605 ∧ -128 ≤ e ∧ e ≤ 127) ∨ (1 ≤ k ∧ k ≤ 5 ∧ m = 0 ∧ e = 0)) := by rw [← mayB_iff]; simp
theorem numB_zero (m e : Int) : numB 0 m e = fitL m e := by simp [numB]
theorem numB_other {k : Int} (h : k ≠ 0) (m e : Int) : numB k m e = false := by simp [numB, h]

theorem fits_long (k m e : Int) (w : World) :
    Calls Tryz.prog 64 #[.agg #[.int .i64 k, .int .i64 m, .int .i64 e], .int .i64 8388608, .int .i64 128] w fun x w' => x = .returned (.bool (fitL m e)) ∧ After w w' := by
  by_cases h1 : -8388605 ≤ m
  · by_cases h2 : m ≤ 8388605
    · by_cases h3 : -128 ≤ e
      · by_cases h4 : e ≤ 127
        · have hh : fitL m e = true := fitL_iff.2 (by omega)
          rw [hh]; clear hh
          go_enter Tryz.func64, Tryz.ntmps64
          go_wp2
          go_ret
          exact ⟨rfl, After.rfl.alloc _⟩
        · have hh : fitL m e = false := fitL_no.2 (by omega)
          rw [hh]; clear hh
          go_enter Tryz.func64, Tryz.ntmps64
          go_wp2
          go_ret
          exact ⟨rfl, After.rfl.alloc _⟩
      · have hh : fitL m e = false := fitL_no.2 (by omega)
        rw [hh]; clear hh
        go_enter Tryz.func64, Tryz.ntmps64
        go_wp2
        go_ret
        exact ⟨rfl, After.rfl.alloc _⟩
    · have hh : fitL m e = false := fitL_no.2 (by omega)
      rw [hh]; clear hh
      go_enter Tryz.func64, Tryz.ntmps64
      go_wp2
      go_ret
      exact ⟨rfl, After.rfl.alloc _⟩
  · have hh : fitL m e = false := fitL_no.2 (by omega)
    rw [hh]; clear hh
    go_enter Tryz.func64, Tryz.ntmps64
    go_wp2
    go_ret
    exact ⟨rfl, After.rfl.alloc _⟩
theorem fits_short (k m e : Int) (w : World) :
    Calls Tryz.prog 64 #[.agg #[.int .i64 k, .int .i64 m, .int .i64 e], .int .i64 2048, .int .i64 8] w fun x w' => x = .returned (.bool (fitS m e)) ∧ After w w' := by
  by_cases h1 : -2045 ≤ m
  · by_cases h2 : m ≤ 2045
    · by_cases h3 : -8 ≤ e
      · by_cases h4 : e ≤ 7
        · have hh : fitS m e = true := fitS_iff.2 (by omega)
          rw [hh]; clear hh
          go_enter Tryz.func64, Tryz.ntmps64
          go_wp2
          go_ret
          exact ⟨rfl, After.rfl.alloc _⟩
        · have hh : fitS m e = false := fitS_no.2 (by omega)
          rw [hh]; clear hh
          go_enter Tryz.func64, Tryz.ntmps64
          go_wp2
          go_ret
          exact ⟨rfl, After.rfl.alloc _⟩
      · have hh : fitS m e = false := fitS_no.2 (by omega)
        rw [hh]; clear hh
        go_enter Tryz.func64, Tryz.ntmps64
        go_wp2
        go_ret
        exact ⟨rfl, After.rfl.alloc _⟩
    · have hh : fitS m e = false := fitS_no.2 (by omega)
      rw [hh]; clear hh
      go_enter Tryz.func64, Tryz.ntmps64
      go_wp2
      go_ret
      exact ⟨rfl, After.rfl.alloc _⟩
  · have hh : fitS m e = false := fitS_no.2 (by omega)
    rw [hh]; clear hh
    go_enter Tryz.func64, Tryz.ntmps64
    go_wp2
    go_ret
    exact ⟨rfl, After.rfl.alloc _⟩

theorem isNumber_any (k m e : Int) (w : World) :
    Calls Tryz.prog 55 #[.agg #[.int .i64 k, .int .i64 m, .int .i64 e]] w fun x w' => x = .returned (.bool (numB k m e)) ∧ After w w' := by
  by_cases hk : k = 0
  · subst hk
    rw [numB_zero]
    go_enter Tryz.func55, Tryz.ntmps55
    go_wp2_with (go_at_call 64; refine (fits_long _ _ _ _).mono ?_; rintro e w' ⟨rfl, ha⟩)
    go_ret
    exact ⟨rfl, (After.rfl.alloc _).trans ha⟩
  · have hk' : (k == 0) = false := by simp [hk]
    rw [numB_other hk]
    go_enter Tryz.func55, Tryz.ntmps55
    go_wp2
    go_ret
    exact ⟨rfl, After.rfl.alloc _⟩

theorem mayBe_any (k m e : Int) (w : World) :
    Calls Tryz.prog 62 #[.agg #[.int .i64 k, .int .i64 m, .int .i64 e]] w fun x w' => x = .returned (.bool (mayB k m e)) ∧ After w w' := by
  by_cases hn : numB k m e = true
  · have hh : mayB k m e = true := mayB_iff.2 (by unfold numB at hn; rw [Bool.and_eq_true, fitL_iff] at hn; have := hn.1; simp at this; omega)
    rw [hh]; clear hh
    go_enter Tryz.func62, Tryz.ntmps62
    go_wp2_with (go_at_call 55; refine (isNumber_any _ _ _ _).mono ?_; rintro e w' ⟨rfl, ha⟩; obtain ⟨hc, hf⟩ := ha.cell; rw [hn])
    go_ret
    exact ⟨rfl, (After.rfl.alloc _).trans ha⟩
  · have hn' : numB k m e = false := by simpa using hn
    have hno : ¬ (k = 0 ∧ -8388605 ≤ m ∧ m ≤ 8388605 ∧ -128 ≤ e ∧ e ≤ 127) := by
      intro hh; apply hn; unfold numB; rw [Bool.and_eq_true, fitL_iff]; exact ⟨by simp [hh.1], hh.2⟩
    clear hn
    by_cases h1 : k < 1
    · have hh : mayB k m e = false := mayB_no.2 (by omega)
      rw [hh]; clear hh
      clear hno
      go_enter Tryz.func62, Tryz.ntmps62
      go_wp2_with (go_at_call 55; refine (isNumber_any _ _ _ _).mono ?_; rintro e w' ⟨rfl, ha⟩; obtain ⟨hc, hf⟩ := ha.cell; rw [hn'])
      go_ret
      exact ⟨rfl, (After.rfl.alloc _).trans ha⟩
    · by_cases h2 : 5 < k
      · have hh : mayB k m e = false := mayB_no.2 (by omega)
        rw [hh]; clear hh
        clear hno
        go_enter Tryz.func62, Tryz.ntmps62
        go_wp2_with (go_at_call 55; refine (isNumber_any _ _ _ _).mono ?_; rintro e w' ⟨rfl, ha⟩; obtain ⟨hc, hf⟩ := ha.cell; rw [hn'])
        go_ret
        exact ⟨rfl, (After.rfl.alloc _).trans ha⟩
      · by_cases h3 : m = 0
        · have hh : mayB k m e = (e == 0) := by
            by_cases he : e = 0
            · rw [mayB_iff.2 (by omega)]; simp [he]
            · rw [mayB_no.2 (by omega)]; simp [he]
          rw [hh]; clear hh
          clear hno
          subst h3
          go_enter Tryz.func62, Tryz.ntmps62
          go_wp2_with (go_at_call 55; refine (isNumber_any _ _ _ _).mono ?_; rintro e w' ⟨rfl, ha⟩; obtain ⟨hc, hf⟩ := ha.cell; rw [hn'])
          go_ret
          exact ⟨rfl, (After.rfl.alloc _).trans ha⟩
        · have hh : mayB k m e = false := mayB_no.2 (by omega)
          rw [hh]; clear hh
          clear hno
          have h3' : (m == 0) = false := by simp [h3]
          go_enter Tryz.func62, Tryz.ntmps62
          go_wp2_with (go_at_call 55; refine (isNumber_any _ _ _ _).mono ?_; rintro e w' ⟨rfl, ha⟩; obtain ⟨hc, hf⟩ := ha.cell; rw [hn'])
          go_ret
          exact ⟨rfl, (After.rfl.alloc _).trans ha⟩

theorem refMay_any (k m e : Int) (w : World) :
    Calls Tryz.prog 21 #[.agg #[.int .i64 k, .int .i64 m, .int .i64 e]] w fun x w' => x = .returned (.bool (mayB k m e)) ∧ After w w' := by
  by_cases hk : k = 0
  · subst hk
    by_cases h1 : -8388605 ≤ m
    · by_cases h2 : m ≤ 8388605
      · by_cases h3 : -128 ≤ e
        · by_cases h4 : e ≤ 127
          · have hh : mayB 0 m e = true := mayB_iff.2 (by omega)
            rw [hh]; clear hh
            go_enter Tryz.func21, Tryz.ntmps21
            go_wp2
            go_ret
            exact ⟨rfl, After.rfl.alloc _⟩
          · have hh : mayB 0 m e = false := mayB_no.2 (by omega)
            rw [hh]; clear hh
            go_enter Tryz.func21, Tryz.ntmps21
            go_wp2
            go_ret
            exact ⟨rfl, After.rfl.alloc _⟩
        · have hh : mayB 0 m e = false := mayB_no.2 (by omega)
          rw [hh]; clear hh
          go_enter Tryz.func21, Tryz.ntmps21
          go_wp2
          go_ret
          exact ⟨rfl, After.rfl.alloc _⟩
      · have hh : mayB 0 m e = false := mayB_no.2 (by omega)
        rw [hh]; clear hh
        go_enter Tryz.func21, Tryz.ntmps21
        go_wp2
        go_ret
        exact ⟨rfl, After.rfl.alloc _⟩
    · have hh : mayB 0 m e = false := mayB_no.2 (by omega)
      rw [hh]; clear hh
      go_enter Tryz.func21, Tryz.ntmps21
      go_wp2
      go_ret
      exact ⟨rfl, After.rfl.alloc _⟩
  · have hk' : (k == 0) = false := by simp [hk]
    by_cases h1 : 0 < k
    · by_cases h2 : k ≤ 5
      · by_cases h3 : m = 0
        · have hh : mayB k m e = (e == 0) := by
            by_cases he : e = 0
            · rw [mayB_iff.2 (by omega)]; simp [he]
            · rw [mayB_no.2 (by omega)]; simp [he]
          rw [hh]; clear hh
          subst h3
          go_enter Tryz.func21, Tryz.ntmps21
          go_wp2
          go_ret
          exact ⟨rfl, After.rfl.alloc _⟩
        · have h3' : (m == 0) = false := by simp [h3]
          have hh : mayB k m e = false := mayB_no.2 (by omega)
          rw [hh]; clear hh
          go_enter Tryz.func21, Tryz.ntmps21
          go_wp2
          go_ret
          exact ⟨rfl, After.rfl.alloc _⟩
      · have hh : mayB k m e = false := mayB_no.2 (by omega)
        rw [hh]; clear hh
        go_enter Tryz.func21, Tryz.ntmps21
        go_wp2
        go_ret
        exact ⟨rfl, After.rfl.alloc _⟩
    · have hh : mayB k m e = false := mayB_no.2 (by omega)
      rw [hh]; clear hh
      go_enter Tryz.func21, Tryz.ntmps21
      go_wp2
      go_ret
      exact ⟨rfl, After.rfl.alloc _⟩
end Go.Proofs.YtgapnimicaopcaaGreat.L2
