/-
  What 16 and 32 bits say: kindOf, said, Short, Long, and the document's answers.
-/
import Derived.Test.YtjblckljbgelaabMay
namespace Go.Proofs.Ytjblckljbgelaab
open Go.RowKit
/-- The kind that a mantissa says. -/
def kd (m M : Int) : Int := if m = M - 1 then 1 else if m = -M then 2 else if m = M - 2 then 3 else if m = -M + 2 then 4 else if m = -M + 1 then 5 else 0
/-- What a mantissa and an exponent say: kind, mantissa, exponent. -/
def sK (m e M : Int) : Int := if kd m M = 0 then 0 else if e = 0 then kd m M else 5
def sM (m _e M : Int) : Int := if kd m M = 0 then m else 0
def sE (m e M : Int) : Int := if kd m M = 0 then e else 0
/-- A number of so many parts, those from the half on below 0. -/
def sgd (n h : Int) : Int := if n < h then n else n - 2 * h
def mS (x : Int) : Int := sgd (x % 4096) 2048
def eS (x : Int) : Int := sgd (x / 4096) 8
def mL (y : Int) : Int := sgd (y % 16777216) 8388608
def eL (y : Int) : Int := sgd (y / 16777216) 128
theorem ret_agg {a b c a' b' c' : Int} (h1 : a = a') (h2 : b = b') (h3 : c = c') : Ending.returned (.agg #[.int .i64 a, .int .i64 b, .int .i64 c]) = .returned (.agg #[.int .i64 a', .int .i64 b', .int .i64 c']) := by rw [h1, h2, h3]
theorem s_num {m e M : Int} (h : kd m M = 0) : sK m e M = 0 ∧ sM m e M = m ∧ sE m e M = e := by simp [sK, sM, sE, h]
theorem s_zero {m M : Int} (h : ¬ kd m M = 0) : sK m 0 M = kd m M ∧ sM m 0 M = 0 ∧ sE m 0 M = 0 := by simp [sK, sM, sE, h]
theorem s_other {m e M : Int} (h : ¬ kd m M = 0) (he : ¬ e = 0) : sK m e M = 5 ∧ sM m e M = 0 ∧ sE m e M = 0 := by simp [sK, sM, sE, h, he]

theorem kindOf_short (m : Int) (w : World) :
    Calls Try.prog 24 #[.int .i64 m, .int .i64 2048] w fun x w' => x = .returned (.int .i64 (kd m 2048)) ∧ w' = w := by
  by_cases h0 : m = 2047
  · subst h0
    have hh : kd 2047 2048 = 1 := by decide
    rw [hh]; clear hh
    go_enter Try.func24, Try.ntmps24
    go_wp2
    go_ret
    exact ⟨rfl, rfl⟩
  by_cases h1 : m = (-2048)
  · subst h1
    have hh : kd (-2048) 2048 = 2 := by decide
    rw [hh]; clear hh
    go_enter Try.func24, Try.ntmps24
    go_wp2
    go_ret
    exact ⟨rfl, rfl⟩
  by_cases h2 : m = 2046
  · subst h2
    have hh : kd 2046 2048 = 3 := by decide
    rw [hh]; clear hh
    go_enter Try.func24, Try.ntmps24
    go_wp2
    go_ret
    exact ⟨rfl, rfl⟩
  by_cases h3 : m = (-2046)
  · subst h3
    have hh : kd (-2046) 2048 = 4 := by decide
    rw [hh]; clear hh
    go_enter Try.func24, Try.ntmps24
    go_wp2
    go_ret
    exact ⟨rfl, rfl⟩
  by_cases h4 : m = (-2047)
  · subst h4
    have hh : kd (-2047) 2048 = 5 := by decide
    rw [hh]; clear hh
    go_enter Try.func24, Try.ntmps24
    go_wp2
    go_ret
    exact ⟨rfl, rfl⟩
  have hh : kd m 2048 = 0 := by
    unfold kd
    rw [if_neg (by omega), if_neg (by omega), if_neg (by omega), if_neg (by omega), if_neg (by omega)]
  rw [hh]; clear hh
  have g0 : (m == 2047) = false := by simpa using h0
  have g1 : (m == (-2048)) = false := by simpa using h1
  have g2 : (m == 2046) = false := by simpa using h2
  have g3 : (m == (-2046)) = false := by simpa using h3
  have g4 : (m == (-2047)) = false := by simpa using h4
  clear h0 h1 h2 h3 h4
  go_enter Try.func24, Try.ntmps24
  go_wp2
  go_ret
  exact ⟨rfl, rfl⟩
theorem said_short (m e : Int) (w : World) :
    Calls Try.prog 15 #[.int .i64 m, .int .i64 e, .int .i64 2048] w fun x w' => x = .returned (.agg #[.int .i64 (sK m e 2048), .int .i64 (sM m e 2048), .int .i64 (sE m e 2048)]) ∧ After w w' := by
  by_cases hk : kd m 2048 = 0
  · obtain ⟨e1, e2, e3⟩ := s_num (e := e) hk
    rw [e1, e2, e3]; clear e1 e2 e3
    go_enter Try.func15, Try.ntmps15
    go_wp2_with (go_at_call 24; refine (kindOf_short _ _).mono ?_; rintro e w' ⟨rfl, rfl⟩; rw [hk])
    exact bodyPost_ret (v := .agg #[.int .i64 0, .int .i64 m, .int .i64 e]) (by simp [results, Try.results15, go_sem]) rfl ⟨rfl, After.rfl.alloc _⟩
  · have hk' : (kd m 2048 == 0) = false := by simpa using hk
    by_cases he : e = 0
    · subst he
      obtain ⟨e1, e2, e3⟩ := s_zero hk
      rw [e1, e2, e3]; clear e1 e2 e3
      generalize hq : kd m 2048 = q at *
      go_enter Try.func15, Try.ntmps15
      go_wp2_with (go_at_call 24; refine (kindOf_short _ _).mono ?_; rintro e w' ⟨rfl, rfl⟩; rw [hq])
      exact bodyPost_ret (v := .agg #[.int .i64 q, .int .i64 0, .int .i64 0]) (by simp [results, Try.results15, go_sem]) rfl ⟨rfl, After.rfl.alloc _⟩
    · have he' : (e == 0) = false := by simpa using he
      have he2 : (e != 0) = true := by simpa using he
      obtain ⟨e1, e2, e3⟩ := s_other hk he
      rw [e1, e2, e3]; clear e1 e2 e3
      generalize hq : kd m 2048 = q at *
      go_enter Try.func15, Try.ntmps15
      go_wp2_with (go_at_call 24; refine (kindOf_short _ _).mono ?_; rintro e w' ⟨rfl, rfl⟩; rw [hq])
      exact bodyPost_ret (v := .agg #[.int .i64 5, .int .i64 0, .int .i64 0]) (by simp [results, Try.results15, go_sem]) rfl ⟨rfl, After.rfl.alloc _⟩
theorem kindOf_long (m : Int) (w : World) :
    Calls Try.prog 24 #[.int .i64 m, .int .i64 8388608] w fun x w' => x = .returned (.int .i64 (kd m 8388608)) ∧ w' = w := by
  by_cases h0 : m = 8388607
  · subst h0
    have hh : kd 8388607 8388608 = 1 := by decide
    rw [hh]; clear hh
    go_enter Try.func24, Try.ntmps24
    go_wp2
    go_ret
    exact ⟨rfl, rfl⟩
  by_cases h1 : m = (-8388608)
  · subst h1
    have hh : kd (-8388608) 8388608 = 2 := by decide
    rw [hh]; clear hh
    go_enter Try.func24, Try.ntmps24
    go_wp2
    go_ret
    exact ⟨rfl, rfl⟩
  by_cases h2 : m = 8388606
  · subst h2
    have hh : kd 8388606 8388608 = 3 := by decide
    rw [hh]; clear hh
    go_enter Try.func24, Try.ntmps24
    go_wp2
    go_ret
    exact ⟨rfl, rfl⟩
  by_cases h3 : m = (-8388606)
  · subst h3
    have hh : kd (-8388606) 8388608 = 4 := by decide
    rw [hh]; clear hh
    go_enter Try.func24, Try.ntmps24
    go_wp2
    go_ret
    exact ⟨rfl, rfl⟩
  by_cases h4 : m = (-8388607)
  · subst h4
    have hh : kd (-8388607) 8388608 = 5 := by decide
    rw [hh]; clear hh
    go_enter Try.func24, Try.ntmps24
    go_wp2
    go_ret
    exact ⟨rfl, rfl⟩
  have hh : kd m 8388608 = 0 := by
    unfold kd
    rw [if_neg (by omega), if_neg (by omega), if_neg (by omega), if_neg (by omega), if_neg (by omega)]
  rw [hh]; clear hh
  have g0 : (m == 8388607) = false := by simpa using h0
  have g1 : (m == (-8388608)) = false := by simpa using h1
  have g2 : (m == 8388606) = false := by simpa using h2
  have g3 : (m == (-8388606)) = false := by simpa using h3
  have g4 : (m == (-8388607)) = false := by simpa using h4
  clear h0 h1 h2 h3 h4
  go_enter Try.func24, Try.ntmps24
  go_wp2
  go_ret
  exact ⟨rfl, rfl⟩
theorem said_long (m e : Int) (w : World) :
    Calls Try.prog 15 #[.int .i64 m, .int .i64 e, .int .i64 8388608] w fun x w' => x = .returned (.agg #[.int .i64 (sK m e 8388608), .int .i64 (sM m e 8388608), .int .i64 (sE m e 8388608)]) ∧ After w w' := by
  by_cases hk : kd m 8388608 = 0
  · obtain ⟨e1, e2, e3⟩ := s_num (e := e) hk
    rw [e1, e2, e3]; clear e1 e2 e3
    go_enter Try.func15, Try.ntmps15
    go_wp2_with (go_at_call 24; refine (kindOf_long _ _).mono ?_; rintro e w' ⟨rfl, rfl⟩; rw [hk])
    exact bodyPost_ret (v := .agg #[.int .i64 0, .int .i64 m, .int .i64 e]) (by simp [results, Try.results15, go_sem]) rfl ⟨rfl, After.rfl.alloc _⟩
  · have hk' : (kd m 8388608 == 0) = false := by simpa using hk
    by_cases he : e = 0
    · subst he
      obtain ⟨e1, e2, e3⟩ := s_zero hk
      rw [e1, e2, e3]; clear e1 e2 e3
      generalize hq : kd m 8388608 = q at *
      go_enter Try.func15, Try.ntmps15
      go_wp2_with (go_at_call 24; refine (kindOf_long _ _).mono ?_; rintro e w' ⟨rfl, rfl⟩; rw [hq])
      exact bodyPost_ret (v := .agg #[.int .i64 q, .int .i64 0, .int .i64 0]) (by simp [results, Try.results15, go_sem]) rfl ⟨rfl, After.rfl.alloc _⟩
    · have he' : (e == 0) = false := by simpa using he
      have he2 : (e != 0) = true := by simpa using he
      obtain ⟨e1, e2, e3⟩ := s_other hk he
      rw [e1, e2, e3]; clear e1 e2 e3
      generalize hq : kd m 8388608 = q at *
      go_enter Try.func15, Try.ntmps15
      go_wp2_with (go_at_call 24; refine (kindOf_long _ _).mono ?_; rintro e w' ⟨rfl, rfl⟩; rw [hq])
      exact bodyPost_ret (v := .agg #[.int .i64 5, .int .i64 0, .int .i64 0]) (by simp [results, Try.results15, go_sem]) rfl ⟨rfl, After.rfl.alloc _⟩
end Go.Proofs.Ytjblckljbgelaab
