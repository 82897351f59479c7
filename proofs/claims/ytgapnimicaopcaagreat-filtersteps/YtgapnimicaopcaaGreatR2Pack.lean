/-
  PackShort and PackLong, and the document's answers.
-/
import Derived.Test.YtgapnimicaopcaaGreatR2Pk
import Derived.Test.YtgapnimicaopcaaGreatR2Bits
namespace Go.Proofs.YtgapnimicaopcaaGreat.L2
open Go.RowKit
/-- The bits of a real that may be. -/
def pbS (k m e : Int) : Int := (e * 4096 + mo k m 2048 % 4096) % 65536
def pbL (k m e : Int) : Int := (e * 16777216 + mo k m 8388608 % 16777216) % 4294967296
/-- What PackShort and PackLong answer. -/
def psV (k m e : Int) : Int := if mayB k m e = true ∧ fitS m e = true then pbS k m e else 0
def psE (k m e : Int) : Int := if mayB k m e = true then (if fitS m e = true then 0 else 9) else 2
def plV (k m e : Int) : Int := if mayB k m e = true then pbL k m e else 0
def plE (k m e : Int) : Int := if mayB k m e = true then 0 else 2
theorem ret2 {q : IntKind} {a a' b b' : Int} (h1 : a = a') (h2 : b = b') : Ending.returned (.tuple #[.int q a, .int .i64 b]) = .returned (.tuple #[.int q a', .int .i64 b']) := by rw [h1, h2]
theorem pbS_go (k m e : Int) (h1 : -8 ≤ e) (h2 : e ≤ 7) : IntKind.u16.wrap (bits .or .i64 (e * 4096) (bits .and .i64 (mo k m 2048) 4095)) = pbS k m e := by
  rw [and_4095, or_12 _ _ (by omega) (by omega) (by omega) (by omega), u16_wrap]; rfl
theorem pbL_go (k m e : Int) (h1 : -128 ≤ e) (h2 : e ≤ 127) : bits .or .i64 (e * 16777216) (bits .and .i64 (mo k m 8388608) 16777215) % 4294967296 = pbL k m e := by
  rw [and_24, or_24 _ _ (by omega) (by omega) (by omega) (by omega)]; rfl
theorem may_e {k m e : Int} (h : mayB k m e = true) : -8388605 ≤ m ∧ m ≤ 8388605 ∧ -128 ≤ e ∧ e ≤ 127 := by
  have := mayB_iff.1 h; omega
theorem mo_bd_s {k m : Int} (h1 : -2048 ≤ m) (h2 : m ≤ 2047) : -2048 ≤ mo k m 2048 ∧ mo k m 2048 ≤ 2047 := by
  unfold mo; split <;> (try split) <;> (try split) <;> (try split) <;> (try split) <;> omega
theorem mo_bd_l {k m : Int} (h1 : -8388608 ≤ m) (h2 : m ≤ 8388607) : -8388608 ≤ mo k m 8388608 ∧ mo k m 8388608 ≤ 8388607 := by
  unfold mo; split <;> (try split) <;> (try split) <;> (try split) <;> (try split) <;> omega
theorem mo_zero (m M : Int) : mo 0 m M = m := by unfold mo; simp

theorem packLong_any (k m e : Int) (w : World) :
    Calls Tryz.prog 52 #[.agg #[.int .i64 k, .int .i64 m, .int .i64 e]] w fun x w' => x = .returned (.tuple #[.int .u32 (plV k m e), .int .i64 (plE k m e)]) ∧ After w w' := by
  by_cases hm0 : mayB k m e = true
  · have hm := hm0
    have e1 : plV k m e = pbL k m e := by unfold plV; rw [if_pos hm]
    have e2 : plE k m e = 0 := by unfold plE; rw [if_pos hm]
    rw [e1, e2]; clear e1 e2 hm0
    obtain ⟨b1, b2, b3, b4⟩ := may_e hm
    have hX := hideIt (pbL_go k m e b3 b4)
    go_enter Tryz.func52, Tryz.ntmps52
    go_wp2_with (first | (go_at_call 62; refine (mayBe_any _ _ _ _).mono ?_; rintro e w1 ⟨rfl, ha⟩; obtain ⟨hc, hf⟩ := ha.cell; rw [hm]) | (go_at_call 63; refine (mantissaOf_long _ _ _ _).mono ?_; rintro e w3 ⟨rfl, hd⟩; have ha3 := ha.trans hd; obtain ⟨hc3, hf3⟩ := ha3.cell))
    go_ret2
    exact ⟨ret2 hX.out rfl, (After.rfl.alloc _).trans ha3⟩
  · have hm : mayB k m e = false := by simpa using hm0
    have e1 : plV k m e = 0 := by unfold plV; simp [hm]
    have e2 : plE k m e = 2 := by unfold plE; simp [hm]
    rw [e1, e2]; clear e1 e2 hm0
    go_enter Tryz.func52, Tryz.ntmps52
    go_wp2_with (go_at_call 62; refine (mayBe_any _ _ _ _).mono ?_; rintro e w1 ⟨rfl, ha⟩; obtain ⟨hc, hf⟩ := ha.cell; rw [hm])
    go_ret2
    exact ⟨rfl, (After.rfl.alloc _).trans ha⟩
end Go.Proofs.YtgapnimicaopcaaGreat.L2
