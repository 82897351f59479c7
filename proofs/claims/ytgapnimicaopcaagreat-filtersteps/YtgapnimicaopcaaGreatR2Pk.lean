/-
  mantissaOf and the document's mantissa.
-/
import Derived.Test.YtgapnimicaopcaaGreatR2May
namespace Go.Proofs.YtgapnimicaopcaaGreat.L2
open Go.RowKit
/-- The mantissa of a kind. -/
def mo (k m M : Int) : Int := if k = 1 then M - 1 else if k = 2 then -M else if k = 3 then M - 2 else if k = 4 then -M + 2 else if k = 5 then -M + 1 else m

theorem mantissaOf_short (k m e : Int) (w : World) :
    Calls Tryz.prog 63 #[.agg #[.int .i64 k, .int .i64 m, .int .i64 e], .int .i64 2048] w fun x w' => x = .returned (.int .i64 (mo k m 2048)) ∧ After w w' := by
  by_cases h0 : k = 1
  · subst h0
    have hh : mo 1 m 2048 = 2047 := rfl
    rw [hh]; clear hh
    go_enter Tryz.func63, Tryz.ntmps63
    go_wp2
    go_ret
    exact ⟨rfl, After.rfl.alloc _⟩
  by_cases h1 : k = 2
  · subst h1
    have hh : mo 2 m 2048 = (-2048) := rfl
    rw [hh]; clear hh
    go_enter Tryz.func63, Tryz.ntmps63
    go_wp2
    go_ret
    exact ⟨rfl, After.rfl.alloc _⟩
  by_cases h2 : k = 3
  · subst h2
    have hh : mo 3 m 2048 = 2046 := rfl
    rw [hh]; clear hh
    go_enter Tryz.func63, Tryz.ntmps63
    go_wp2
    go_ret
    exact ⟨rfl, After.rfl.alloc _⟩
  by_cases h3 : k = 4
  · subst h3
    have hh : mo 4 m 2048 = (-2046) := rfl
    rw [hh]; clear hh
    go_enter Tryz.func63, Tryz.ntmps63
    go_wp2
    go_ret
    exact ⟨rfl, After.rfl.alloc _⟩
  by_cases h4 : k = 5
  · subst h4
    have hh : mo 5 m 2048 = (-2047) := rfl
    rw [hh]; clear hh
    go_enter Tryz.func63, Tryz.ntmps63
    go_wp2
    go_ret
    exact ⟨rfl, After.rfl.alloc _⟩
  have hh : mo k m 2048 = m := by unfold mo; rw [if_neg h0, if_neg h1, if_neg h2, if_neg h3, if_neg h4]
  rw [hh]; clear hh
  have g0 : (k == 1) = false := by simpa using h0
  have g1 : (k == 2) = false := by simpa using h1
  have g2 : (k == 3) = false := by simpa using h2
  have g3 : (k == 4) = false := by simpa using h3
  have g4 : (k == 5) = false := by simpa using h4
  clear h0 h1 h2 h3 h4
  go_enter Tryz.func63, Tryz.ntmps63
  go_wp2
  go_ret
  exact ⟨rfl, After.rfl.alloc _⟩
theorem mantissaOf_long (k m e : Int) (w : World) :
    Calls Tryz.prog 63 #[.agg #[.int .i64 k, .int .i64 m, .int .i64 e], .int .i64 8388608] w fun x w' => x = .returned (.int .i64 (mo k m 8388608)) ∧ After w w' := by
  by_cases h0 : k = 1
  · subst h0
    have hh : mo 1 m 8388608 = 8388607 := rfl
    rw [hh]; clear hh
    go_enter Tryz.func63, Tryz.ntmps63
    go_wp2
    go_ret
    exact ⟨rfl, After.rfl.alloc _⟩
  by_cases h1 : k = 2
  · subst h1
    have hh : mo 2 m 8388608 = (-8388608) := rfl
    rw [hh]; clear hh
    go_enter Tryz.func63, Tryz.ntmps63
    go_wp2
    go_ret
    exact ⟨rfl, After.rfl.alloc _⟩
  by_cases h2 : k = 3
  · subst h2
    have hh : mo 3 m 8388608 = 8388606 := rfl
    rw [hh]; clear hh
    go_enter Tryz.func63, Tryz.ntmps63
    go_wp2
    go_ret
    exact ⟨rfl, After.rfl.alloc _⟩
  by_cases h3 : k = 4
  · subst h3
    have hh : mo 4 m 8388608 = (-8388606) := rfl
    rw [hh]; clear hh
    go_enter Tryz.func63, Tryz.ntmps63
    go_wp2
    go_ret
    exact ⟨rfl, After.rfl.alloc _⟩
  by_cases h4 : k = 5
  · subst h4
    have hh : mo 5 m 8388608 = (-8388607) := rfl
    rw [hh]; clear hh
    go_enter Tryz.func63, Tryz.ntmps63
    go_wp2
    go_ret
    exact ⟨rfl, After.rfl.alloc _⟩
  have hh : mo k m 8388608 = m := by unfold mo; rw [if_neg h0, if_neg h1, if_neg h2, if_neg h3, if_neg h4]
  rw [hh]; clear hh
  have g0 : (k == 1) = false := by simpa using h0
  have g1 : (k == 2) = false := by simpa using h1
  have g2 : (k == 3) = false := by simpa using h2
  have g3 : (k == 4) = false := by simpa using h3
  have g4 : (k == 5) = false := by simpa using h4
  clear h0 h1 h2 h3 h4
  go_enter Tryz.func63, Tryz.ntmps63
  go_wp2
  go_ret
  exact ⟨rfl, After.rfl.alloc _⟩
end Go.Proofs.YtgapnimicaopcaaGreat.L2
