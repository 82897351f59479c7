/-
  The document's tenth and Of; number, Bring.
-/
import Derived.Test.YtjblckljbgelaaaOf
namespace Go.Proofs.Ytjblckljbgelaaa
open Go.RowKit
theorem of_any (v : Int) (w : World) :
    Calls Try.prog 19 #[.int .i64 v] w fun x w' => x = .returned (.agg #[.int .i64 0, .int .i64 (ofM v), .int .i64 (ofE v)]) ∧ After w w' := by
  by_cases h : cl v = 0
  · have e1 : ofM v = 0 := by unfold ofM; rw [if_pos h]
    have e2 : ofE v = 0 := by unfold ofE; rw [if_pos h]
    rw [e1, e2]; exact of_zero v w h
  · have e1 : ofM v = (st2 v).1 := by unfold ofM; rw [if_neg h]
    have e2 : ofE v = (st2 v).2 := by unfold ofE; rw [if_neg h]
    rw [e1, e2]; exact of_yes v w h
theorem refTenth_pos (n : Int) (w : World) (h1 : 0 ≤ n) (h2 : n ≤ 2147483647) :
    Calls Try.prog 42 #[.int .i64 n] w fun x w' => x = .returned (.int .i64 (rd n 10)) ∧ w' = w := by
  rw [rd10, if_pos h1]
  go_enter Try.func42, Try.ntmps42
  go_wp2
  go_ret
  exact ⟨rfl, rfl⟩
theorem refTenth_any (n : Int) (w : World) (h1 : -2147483647 ≤ n) (h2 : n ≤ 2147483647) :
    Calls Try.prog 42 #[.int .i64 n] w fun x w' => x = .returned (.int .i64 (rd n 10)) ∧ w' = w := by
  by_cases h : 0 ≤ n
  · exact refTenth_pos n w h h2
  · have e : rd n 10 = - rd (-n) 10 := by have := rd_neg n 10 (by decide); omega
    have b : 0 ≤ rd (-n) 10 ∧ rd (-n) 10 ≤ 2147483647 := by rw [rd10, if_pos (by omega)]; omega
    obtain ⟨b1, b2⟩ := b
    rw [e]; clear e
    go_enter Try.func42, Try.ntmps42
    go_wp2_with (go_at_call 42; refine (refTenth_pos _ _ (by omega) (by omega)).mono ?_; rintro e' w' ⟨rfl, rfl⟩)
    go_ret
    exact ⟨rfl, rfl⟩
theorem refOf_zero (v : Int) (w : World) (h : cl v = 0) :
    Calls Try.prog 20 #[.int .i64 v] w fun x w' => x = .returned (.agg #[.int .i64 0, .int .i64 0, .int .i64 0]) ∧ After w w' := by
  go_enter Try.func20, Try.ntmps20
  go_wp2_with (go_at_call 41; refine (refClamp_any _ _).mono ?_; rintro e w' ⟨rfl, rfl⟩; rw [h])
  exact bodyPost_ret (v := .agg #[.int .i64 0, .int .i64 0, .int .i64 0]) (by simp [results, Try.results20, go_sem]) rfl ⟨rfl, After.rfl.alloc _⟩
set_option maxHeartbeats 1000000 in
theorem refOf_yes (v : Int) (w : World) (h : cl v ≠ 0) :
    Calls Try.prog 20 #[.int .i64 v] w fun x w' => x = .returned (.agg #[.int .i64 0, .int .i64 (st2 v).1, .int .i64 (st2 v).2]) ∧ After w w' := by
  have hz : (cl v == 0) = false := by simpa using h
  have b1 := cl_lo v
  have b2 := cl_hi v
  go_enter Try.func20, Try.ntmps20
  go_wp2_with (go_at_call 41; refine (refClamp_any _ _).mono ?_; rintro e w' ⟨rfl, rfl⟩)
  go_loop [0, 3] (fun x y => ∃ (m e : Int) (n : Nat), x = .int .i64 m ∧ y = .int .i64 e ∧ n ≤ 3 ∧ m ≠ 0 ∧ -cap n ≤ m ∧ m ≤ cap n ∧ -2147483647 ≤ m ∧ m ≤ 2147483647 ∧ -3 ≤ e ∧ e + n = 0 ∧ lo1 n m e = st1 v) (fun x _ => (intOf x).natAbs)
  case atStart => exact ⟨cl v, -3, 3, rfl, rfl, by omega, h, by rw [cap3]; omega, by rw [cap3]; omega, b1, b2, by omega, by omega, rfl⟩
  case round =>
    obtain ⟨m, e, n, rfl, rfl, hn3, hm0, c1, c2, c3, c4, e1, e2, hlo⟩ := hrel
    clear hz
    by_cases hin : -8388605 ≤ m ∧ m ≤ 8388605
    · rw [lo1_in hin] at hlo
      have HL := hideIt (pair1 hlo)
      clear hlo c1 c2
      obtain ⟨i1, i2⟩ := hin
      go_wp2
      go_loop [0, 3] (fun x y => ∃ (m e : Int) (n : Nat), x = .int .i64 m ∧ y = .int .i64 e ∧ n ≤ 7 ∧ m ≠ 0 ∧ -ten n < m ∧ m < ten n ∧ -8388605 ≤ m ∧ m ≤ 8388605 ∧ -3 ≤ e ∧ e + n ≤ 7 ∧ lo2 n m e = st2 v) (fun x _ => (intOf x).natAbs)
      case atStart => exact ⟨m, e, 7, rfl, rfl, by omega, hm0, by rw [ten7]; omega, by rw [ten7]; omega, i1, i2, e1, by omega, by unfold st2; rw [HL.out.1, HL.out.2]⟩
      case round =>
        clear HL i1 i2 c3 c4 e1 e2 hm0 hn3
        obtain ⟨m, e, n, rfl, rfl, hn7, hm0, c1, c2, c3, c4, e1, e2, hlo⟩ := hrel
        by_cases h10 : m % 10 = 0
        · have hn : n ≠ 0 := by
            intro hn; subst hn
            have : ten 0 = 1 := rfl
            omega
          obtain ⟨n', rfl⟩ : ∃ n', n = n' + 1 := ⟨n - 1, by omega⟩
          obtain ⟨s1, s2, s3, s4, s5⟩ := step2 h10 hm0 c1 c2
          rw [lo2_go h10] at hlo
          have HL := hideIt hlo
          have S := hideIt (And.intro s1 (And.intro s2 (And.intro s3 (And.intro s4 s5))))
          have ht : m.tmod 10 = 0 := (tmod10 m).2 h10
          have htd : m.tdiv 10 = rd m 10 := tdiv10 m h10
          have r1 : -8388605 ≤ rd m 10 := by omega
          have r2 : rd m 10 ≤ 8388605 := by omega
          clear hlo s1 s2 s3 s4 s5 c1 c2 h10
          go_wp2
          go_round
          case rel => exact ⟨rd m 10, e + 1, n', rfl, rfl, by omega, S.out.1, S.out.2.1, S.out.2.2.1, r1, r2, by omega, by omega, HL.out⟩
          case measure => exact S.out.2.2.2.1
        · rw [lo2_stop h10] at hlo
          obtain ⟨p1, p2⟩ := pair1 hlo
          have HP := hideIt (And.intro p1 p2)
          have ht : ¬ m.tmod 10 = 0 := fun x => h10 ((tmod10 m).1 x)
          have ht' : (m.tmod 10 == 0) = false := by simpa using ht
          clear hlo p1 p2 c1 c2 h10 ht
          go_wp2
          exact bodyPost_ret (v := .agg #[.int .i64 0, .int .i64 m, .int .i64 e]) (by simp [results, Try.results20, go_sem]) rfl ⟨by rw [HP.out.1, HP.out.2], After.rfl.alloc _⟩
    · have hn : n ≠ 0 := by
        intro hn; subst hn
        have : cap 0 = 8388605 := rfl
        omega
      obtain ⟨n', rfl⟩ : ∃ n', n = n' + 1 := ⟨n - 1, by omega⟩
      obtain ⟨s1, s2, s3, s4⟩ := step1 hin c1 c2
      rw [lo1_out hin] at hlo
      have HL := hideIt hlo
      have S := hideIt (And.intro s1 (And.intro s2 (And.intro s3 s4)))
      clear hlo s1 s2 s3 s4 c1 c2
      by_cases hneg : m < -8388605
      · clear hin
        go_wp2_with (go_at_call 42; refine (refTenth_any m _ (by omega) (by omega)).mono ?_; rintro e' w2 ⟨rfl, rfl⟩)
        go_round
        case rel => exact ⟨rd m 10, e + 1, n', rfl, rfl, by omega, S.out.1, S.out.2.1, S.out.2.2.1, by have := S.out.2.2.2; omega, by have := S.out.2.2.2; omega, by omega, by omega, HL.out⟩
        case measure => exact S.out.2.2.2
      · have hpos : 8388605 < m := by omega
        clear hin
        go_wp2_with (go_at_call 42; refine (refTenth_any m _ (by omega) (by omega)).mono ?_; rintro e' w2 ⟨rfl, rfl⟩)
        go_round
        case rel => exact ⟨rd m 10, e + 1, n', rfl, rfl, by omega, S.out.1, S.out.2.1, S.out.2.2.1, by have := S.out.2.2.2; omega, by have := S.out.2.2.2; omega, by omega, by omega, HL.out⟩
        case measure => exact S.out.2.2.2
theorem refOf_any (v : Int) (w : World) :
    Calls Try.prog 20 #[.int .i64 v] w fun x w' => x = .returned (.agg #[.int .i64 0, .int .i64 (ofM v), .int .i64 (ofE v)]) ∧ After w w' := by
  by_cases h : cl v = 0
  · have e1 : ofM v = 0 := by unfold ofM; rw [if_pos h]
    have e2 : ofE v = 0 := by unfold ofE; rw [if_pos h]
    rw [e1, e2]; exact refOf_zero v w h
  · have e1 : ofM v = (st2 v).1 := by unfold ofM; rw [if_neg h]
    have e2 : ofE v = (st2 v).2 := by unfold ofE; rw [if_neg h]
    rw [e1, e2]; exact refOf_yes v w h
theorem number_any (m e : Int) (w : World) :
    Calls Try.prog 26 #[.int .i64 m, .int .i64 e] w fun x w' => x = .returned (.agg #[.int .i64 0, .int .i64 m, .int .i64 e]) ∧ After w w' := by
  go_enter Try.func26, Try.ntmps26
  go_wp2
  exact bodyPost_ret (v := .agg #[.int .i64 0, .int .i64 m, .int .i64 e]) (by simp [results, Try.results26, go_sem]) rfl ⟨rfl, After.rfl.alloc _⟩
theorem tmod_eq (i n : Int) (hn : 0 < n) : i % n = if i.tmod n < 0 then i.tmod n + n else i.tmod n := by
  by_cases hi : 0 ≤ i
  · rw [Int.tmod_eq_emod_of_nonneg hi]
    have := Int.emod_nonneg i (show n ≠ 0 by omega)
    rw [if_neg (by omega)]
  · have e := Int.neg_tmod (-i) n
    rw [Int.neg_neg, Int.tmod_eq_emod_of_nonneg (show 0 ≤ -i by omega)] at e
    have b1 := Int.emod_nonneg (-i) (show n ≠ 0 by omega)
    have b2 := Int.emod_lt_of_pos (-i) hn
    have b3 := Int.emod_nonneg i (show n ≠ 0 by omega)
    have b4 := Int.emod_lt_of_pos i hn
    have d1 := Int.mul_ediv_add_emod (-i) n
    have d2 := Int.mul_ediv_add_emod i n
    have hs : n * ((-i) / n + i / n) = -((-i) % n + i % n) := by rw [Int.mul_add]; omega
    rw [e]
    generalize (-i) % n = x at *
    generalize i % n = y at *
    generalize (-i) / n + i / n = q at *
    by_cases hq : q = 0
    · subst hq
      rw [Int.mul_zero] at hs
      rw [if_neg (by omega)]; omega
    · have hq1 : q = -1 := by
        by_cases h1 : q ≤ -2
        · have : n * q ≤ n * (-2) := Int.mul_le_mul_of_nonneg_left h1 (by omega)
          omega
        · by_cases h2 : 1 ≤ q
          · have : n * 1 ≤ n * q := Int.mul_le_mul_of_nonneg_left h2 (by omega)
            omega
          · omega
      subst hq1
      by_cases hx : x = 0
      · subst hx; omega
      · rw [if_pos (by omega)]; omega
theorem bring_any (i n : Int) (w : World) (h1 : 0 < n) (h2 : n ≤ 16777211) :
    Calls Try.prog 24 #[.int .i64 i, .int .i64 n] w fun x w' => x = .returned (.int .i64 (i % n)) ∧ w' = w := by
  have he := tmod_eq i n h1
  have hb := tmod_bd i n (by omega)
  have b1 : -16777211 ≤ i.tmod n := by omega
  have b2 : i.tmod n ≤ 16777211 := by omega
  clear hb
  by_cases hneg : i.tmod n < 0
  · rw [if_pos hneg] at he
    rw [he]; clear he
    go_enter Try.func24, Try.ntmps24
    go_wp2
    go_ret
    exact ⟨rfl, rfl⟩
  · rw [if_neg hneg] at he
    rw [he]; clear he
    go_enter Try.func24, Try.ntmps24
    go_wp2
    go_ret
    exact ⟨rfl, rfl⟩
end Go.Proofs.Ytjblckljbgelaaa
