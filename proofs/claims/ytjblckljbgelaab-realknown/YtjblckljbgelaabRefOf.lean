/-
  The document's tenth and Of; number, Bring.
-/
import Derived.Test.YtjblckljbgelaabOf
namespace Go.Proofs.Ytjblckljbgelaab
open Go.RowKit
theorem of_any (v : Int) (w : World) :
    Calls Try.prog 13 #[.int .i64 v] w fun x w' => x = .returned (.agg #[.int .i64 0, .int .i64 (ofM v), .int .i64 (ofE v)]) ∧ After w w' := by
  by_cases h : cl v = 0
  · have e1 : ofM v = 0 := by unfold ofM; rw [if_pos h]
    have e2 : ofE v = 0 := by unfold ofE; rw [if_pos h]
    rw [e1, e2]; exact of_zero v w h
  · have e1 : ofM v = (st2 v).1 := by unfold ofM; rw [if_neg h]
    have e2 : ofE v = (st2 v).2 := by unfold ofE; rw [if_neg h]
    rw [e1, e2]; exact of_yes v w h
theorem number_any (m e : Int) (w : World) :
    Calls Try.prog 7 #[.int .i64 m, .int .i64 e] w fun x w' => x = .returned (.agg #[.int .i64 0, .int .i64 m, .int .i64 e]) ∧ After w w' := by
  go_enter Try.func7, Try.ntmps7
  go_wp2
  exact bodyPost_ret (v := .agg #[.int .i64 0, .int .i64 m, .int .i64 e]) (by simp [results, Try.results7, go_sem]) rfl ⟨rfl, After.rfl.alloc _⟩
theorem tmod_eq (i n : Int) (hn : 0 < n) : i % n = if i.tmod n < 0 then i.tmod n + n else i.tmod n := by
  by_cases hi : 0 ≤ i
  · rw [Int.tmod_eq_emod_of_nonneg hi]
    have := Int.emod_nonneg i (show n ≠ 0 by omega)
    rw [if_neg (by omega)]
  · have e := Int.neg_tmod (-i) n
    rw [Int.neg_neg, Int.tmod_eq_emod_of_nonneg (show 0 ≤ -i by omega)] at e
    have b1 := Int.emod_nonneg (-i) (show n ≠ 0 by omega)
    have b2 := Int.emod_lt_of_pos (-i) hn
    have b3 := Int.emod_nonneg i (show n ≠ 0 by omega)
    have b4 := Int.emod_lt_of_pos i hn
    have d1 := Int.mul_ediv_add_emod (-i) n
    have d2 := Int.mul_ediv_add_emod i n
    have hs : n * ((-i) / n + i / n) = -((-i) % n + i % n) := by rw [Int.mul_add]; omega
    rw [e]
    generalize (-i) % n = x at *
    generalize i % n = y at *
    generalize (-i) / n + i / n = q at *
    by_cases hq : q = 0
    · subst hq
      rw [Int.mul_zero] at hs
      rw [if_neg (by omega)]; omega
    · have hq1 : q = -1 := by
        by_cases h1 : q ≤ -2
        · have : n * q ≤ n * (-2) := Int.mul_le_mul_of_nonneg_left h1 (by omega)
          omega
        · by_cases h2 : 1 ≤ q
          · have : n * 1 ≤ n * q := Int.mul_le_mul_of_nonneg_left h2 (by omega)
            omega
          · omega
      subst hq1
      by_cases hx : x = 0
      · subst hx; omega
      · rw [if_pos (by omega)]; omega
end Go.Proofs.Ytjblckljbgelaab
