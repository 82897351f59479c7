/-
  The document's Short and Long.
-/
import Derived.Test.YtjblckljbgelaaaSay2
namespace Go.Proofs.Ytjblckljbgelaaa
open Go.RowKit

theorem refShort_any (x : Int) (w : World) (h1 : 0 ≤ x) (h2 : x ≤ 65535) :
    Calls Try.prog 11 #[.int .u16 x] w fun r w' => r = .returned (.agg #[.int .i64 (shK x), .int .i64 (shM x), .int .i64 (shE x)]) ∧ After w w' := by
  have d1 : sK (sgd (x % 4096) 2048) (sgd (x / 4096) 8) 2048 = shK x := rfl
  have d2 : sM (sgd (x % 4096) 2048) (sgd (x / 4096) 8) 2048 = shM x := rfl
  have d3 : sE (sgd (x % 4096) 2048) (sgd (x / 4096) 8) 2048 = shE x := rfl
  have d1 := hideIt d1
  have d2 := hideIt d2
  have d3 := hideIt d3
  go_enter Try.func11, Try.ntmps11
  go_wp2_with (first | (go_at_call 30; refine (refSigned_any _ _ _ (by omega) (by omega) (by omega) (by omega)).mono ?_; rintro e w' ⟨rfl, rfl⟩) | (go_at_call 29; refine (refSaid_short _ _ _).mono ?_; rintro e w' ⟨rfl, ha⟩; obtain ⟨hc, hf⟩ := ha.cell; rw [d1.out, d2.out, d3.out]))
  exact bodyPost_ret (v := .agg #[.int .i64 (shK x), .int .i64 (shM x), .int .i64 (shE x)]) (by simp [results, Try.results11, go_sem, hc]) rfl ⟨rfl, (((((After.rfl.alloc _).trans ha).set (Nat.le_refl _) _).set (Nat.le_refl _) _).set (Nat.le_refl _) _)⟩
theorem refLong_any (x : Int) (w : World) (h1 : 0 ≤ x) (h2 : x ≤ 4294967295) :
    Calls Try.prog 12 #[.int .u32 x] w fun r w' => r = .returned (.agg #[.int .i64 (loK x), .int .i64 (loM x), .int .i64 (loE x)]) ∧ After w w' := by
  have d1 : sK (sgd (x % 16777216) 8388608) (sgd (x / 16777216) 128) 8388608 = loK x := rfl
  have d2 : sM (sgd (x % 16777216) 8388608) (sgd (x / 16777216) 128) 8388608 = loM x := rfl
  have d3 : sE (sgd (x % 16777216) 8388608) (sgd (x / 16777216) 128) 8388608 = loE x := rfl
  have d1 := hideIt d1
  have d2 := hideIt d2
  have d3 := hideIt d3
  go_enter Try.func12, Try.ntmps12
  go_wp2_with (first | (go_at_call 30; refine (refSigned_any _ _ _ (by omega) (by omega) (by omega) (by omega)).mono ?_; rintro e w' ⟨rfl, rfl⟩) | (go_at_call 29; refine (refSaid_long _ _ _).mono ?_; rintro e w' ⟨rfl, ha⟩; obtain ⟨hc, hf⟩ := ha.cell; rw [d1.out, d2.out, d3.out]))
  exact bodyPost_ret (v := .agg #[.int .i64 (loK x), .int .i64 (loM x), .int .i64 (loE x)]) (by simp [results, Try.results12, go_sem, hc]) rfl ⟨rfl, (((((After.rfl.alloc _).trans ha).set (Nat.le_refl _) _).set (Nat.le_refl _) _).set (Nat.le_refl _) _)⟩
end Go.Proofs.Ytjblckljbgelaaa
