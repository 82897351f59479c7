/-
  Laid together: Say, MgA.
-/
import Derived.Test.YthcfdoafncbliaaGreatB01
import Derived.Test.YthcfdoafncbliaaGreatB07
import Derived.Maps.OwnSet
/-
  What 16 and 32 bits say: real.Short and real.Long, and the document's answers.
-/
namespace Go.Proofs.YthcfdoafncbliaaGreat
open Go.RowKit
theorem After.cellsOf {W w1 : World} (hb : After W w1) : (∀ b o, b < W.heap.size → w1.cell? ⟨b, o, none⟩ = W.cell? ⟨b, o, none⟩) ∧ (∀ b o, b < W.heap.size → w1.frozen? ⟨b, o, none⟩ = W.frozen? ⟨b, o, none⟩) :=
  ⟨fun b o h => Below.cell (p := ⟨b, o, none⟩) hb.below h, fun b o h => Below.frozen (p := ⟨b, o, none⟩) hb.below h⟩
/-- The kind that a mantissa says. -/
def kd (m M : Int) : Int := if m = M - 1 then 1 else if m = -M then 2 else if m = M - 2 then 3 else if m = -M + 2 then 4 else if m = -M + 1 then 5 else 0
/-- What a mantissa and an exponent say: kind, mantissa, exponent. -/
def sK (m e M : Int) : Int := if kd m M = 0 then 0 else if e = 0 then kd m M else 5
def sM (m _e M : Int) : Int := if kd m M = 0 then m else 0
def sE (m e M : Int) : Int := if kd m M = 0 then e else 0
/-- A number of so many parts, those from the half on below 0. -/
def sgd (n h : Int) : Int := if n < h then n else n - 2 * h
def mS (x : Int) : Int := sgd (x % 4096) 2048
def eS (x : Int) : Int := sgd (x / 4096) 8
def mL (y : Int) : Int := sgd (y % 16777216) 8388608
def eL (y : Int) : Int := sgd (y / 16777216) 128
theorem ret_agg {a b c a' b' c' : Int} (h1 : a = a') (h2 : b = b') (h3 : c = c') : Ending.returned (.agg #[.int .i64 a, .int .i64 b, .int .i64 c]) = .returned (.agg #[.int .i64 a', .int .i64 b', .int .i64 c']) := by rw [h1, h2, h3]
theorem s_num {m e M : Int} (h : kd m M = 0) : sK m e M = 0 ∧ sM m e M = m ∧ sE m e M = e := by simp [sK, sM, sE, h]
theorem s_zero {m M : Int} (h : ¬ kd m M = 0) : sK m 0 M = kd m M ∧ sM m 0 M = 0 ∧ sE m 0 M = 0 := by simp [sK, sM, sE, h]
theorem s_other {m e M : Int} (h : ¬ kd m M = 0) (he : ¬ e = 0) : sK m e M = 5 ∧ sM m e M = 0 ∧ sE m e M = 0 := by simp [sK, sM, sE, h, he]

theorem kindOf_short (m : Int) (w : World) :
    Calls Tryz.prog 80 #[.int .i64 m, .int .i64 2048] w fun x w' => x = .returned (.int .i64 (kd m 2048)) ∧ w' = w := by
  by_cases h0 : m = 2047
  · subst h0
    have hh : kd 2047 2048 = 1 := by decide
    rw [hh]; clear hh
    go_enter Tryz.func80, Tryz.ntmps80
    go_wp2
    go_ret
    exact ⟨rfl, rfl⟩
  by_cases h1 : m = (-2048)
  · subst h1
    have hh : kd (-2048) 2048 = 2 := by decide
    rw [hh]; clear hh
    go_enter Tryz.func80, Tryz.ntmps80
    go_wp2
    go_ret
    exact ⟨rfl, rfl⟩
  by_cases h2 : m = 2046
  · subst h2
    have hh : kd 2046 2048 = 3 := by decide
    rw [hh]; clear hh
    go_enter Tryz.func80, Tryz.ntmps80
    go_wp2
    go_ret
    exact ⟨rfl, rfl⟩
  by_cases h3 : m = (-2046)
  · subst h3
    have hh : kd (-2046) 2048 = 4 := by decide
    rw [hh]; clear hh
    go_enter Tryz.func80, Tryz.ntmps80
    go_wp2
    go_ret
    exact ⟨rfl, rfl⟩
  by_cases h4 : m = (-2047)
  · subst h4
    have hh : kd (-2047) 2048 = 5 := by decide
    rw [hh]; clear hh
    go_enter Tryz.func80, Tryz.ntmps80
    go_wp2
    go_ret
    exact ⟨rfl, rfl⟩
  have hh : kd m 2048 = 0 := by
    unfold kd
    rw [if_neg (by omega), if_neg (by omega), if_neg (by omega), if_neg (by omega), if_neg (by omega)]
  rw [hh]; clear hh
  have g0 : (m == 2047) = false := by simpa using h0
  have g1 : (m == (-2048)) = false := by simpa using h1
  have g2 : (m == 2046) = false := by simpa using h2
  have g3 : (m == (-2046)) = false := by simpa using h3
  have g4 : (m == (-2047)) = false := by simpa using h4
  clear h0 h1 h2 h3 h4
  go_enter Tryz.func80, Tryz.ntmps80
  go_wp2
  go_ret
  exact ⟨rfl, rfl⟩
theorem said_short (m e : Int) (w : World) :
    Calls Tryz.prog 55 #[.int .i64 m, .int .i64 e, .int .i64 2048] w fun x w' => x = .returned (.agg #[.int .i64 (sK m e 2048), .int .i64 (sM m e 2048), .int .i64 (sE m e 2048)]) ∧ After w w' := by
  by_cases hk : kd m 2048 = 0
  · obtain ⟨e1, e2, e3⟩ := s_num (e := e) hk
    rw [e1, e2, e3]; clear e1 e2 e3
    go_enter Tryz.func55, Tryz.ntmps55
    go_wp2_with (go_at_call 80; refine (kindOf_short _ _).mono ?_; rintro e w' ⟨rfl, rfl⟩; rw [hk])
    exact bodyPost_ret (v := .agg #[.int .i64 0, .int .i64 m, .int .i64 e]) (by simp [results, Tryz.results55, go_sem]) rfl ⟨rfl, After.rfl.alloc _⟩
  · have hk' : (kd m 2048 == 0) = false := by simpa using hk
    by_cases he : e = 0
    · subst he
      obtain ⟨e1, e2, e3⟩ := s_zero hk
      rw [e1, e2, e3]; clear e1 e2 e3
      generalize hq : kd m 2048 = q at *
      go_enter Tryz.func55, Tryz.ntmps55
      go_wp2_with (go_at_call 80; refine (kindOf_short _ _).mono ?_; rintro e w' ⟨rfl, rfl⟩; rw [hq])
      exact bodyPost_ret (v := .agg #[.int .i64 q, .int .i64 0, .int .i64 0]) (by simp [results, Tryz.results55, go_sem]) rfl ⟨rfl, After.rfl.alloc _⟩
    · have he' : (e == 0) = false := by simpa using he
      have he2 : (e != 0) = true := by simpa using he
      obtain ⟨e1, e2, e3⟩ := s_other hk he
      rw [e1, e2, e3]; clear e1 e2 e3
      generalize hq : kd m 2048 = q at *
      go_enter Tryz.func55, Tryz.ntmps55
      go_wp2_with (go_at_call 80; refine (kindOf_short _ _).mono ?_; rintro e w' ⟨rfl, rfl⟩; rw [hq])
      exact bodyPost_ret (v := .agg #[.int .i64 5, .int .i64 0, .int .i64 0]) (by simp [results, Tryz.results55, go_sem]) rfl ⟨rfl, After.rfl.alloc _⟩
theorem refSaid_short (m e : Int) (w : World) :
    Calls Tryz.prog 78 #[.int .i64 m, .int .i64 e, .int .i64 2048] w fun x w' => x = .returned (.agg #[.int .i64 (sK m e 2048), .int .i64 (sM m e 2048), .int .i64 (sE m e 2048)]) ∧ After w w' := by
  by_cases h0 : m = 2047
  · subst h0
    have hh : kd 2047 2048 = 1 := by decide
    by_cases he : e = 0
    · subst he
      obtain ⟨e1, e2, e3⟩ := s_zero (m := 2047) (M := 2048) (by decide)
      rw [e1, e2, e3, hh]; clear e1 e2 e3 hh
      go_enter Tryz.func78, Tryz.ntmps78
      go_wp2
      exact bodyPost_ret (v := .agg #[.int .i64 1, .int .i64 0, .int .i64 0]) (by simp [results, Tryz.results78, go_sem]) rfl ⟨rfl, After.rfl.alloc _⟩
    · have he' : (e == 0) = false := by simpa using he
      have he2 : (e != 0) = true := by simpa using he
      obtain ⟨e1, e2, e3⟩ := s_other (m := 2047) (M := 2048) (by decide) he
      rw [e1, e2, e3]; clear e1 e2 e3 hh
      go_enter Tryz.func78, Tryz.ntmps78
      go_wp2
      exact bodyPost_ret (v := .agg #[.int .i64 5, .int .i64 0, .int .i64 0]) (by simp [results, Tryz.results78, go_sem]) rfl ⟨rfl, After.rfl.alloc _⟩
  by_cases h1 : m = (-2048)
  · subst h1
    have hh : kd (-2048) 2048 = 2 := by decide
    by_cases he : e = 0
    · subst he
      obtain ⟨e1, e2, e3⟩ := s_zero (m := (-2048)) (M := 2048) (by decide)
      rw [e1, e2, e3, hh]; clear e1 e2 e3 hh
      go_enter Tryz.func78, Tryz.ntmps78
      go_wp2
      exact bodyPost_ret (v := .agg #[.int .i64 2, .int .i64 0, .int .i64 0]) (by simp [results, Tryz.results78, go_sem]) rfl ⟨rfl, After.rfl.alloc _⟩
    · have he' : (e == 0) = false := by simpa using he
      have he2 : (e != 0) = true := by simpa using he
      obtain ⟨e1, e2, e3⟩ := s_other (m := (-2048)) (M := 2048) (by decide) he
      rw [e1, e2, e3]; clear e1 e2 e3 hh
      go_enter Tryz.func78, Tryz.ntmps78
      go_wp2
      exact bodyPost_ret (v := .agg #[.int .i64 5, .int .i64 0, .int .i64 0]) (by simp [results, Tryz.results78, go_sem]) rfl ⟨rfl, After.rfl.alloc _⟩
  by_cases h2 : m = 2046
  · subst h2
    have hh : kd 2046 2048 = 3 := by decide
    by_cases he : e = 0
    · subst he
      obtain ⟨e1, e2, e3⟩ := s_zero (m := 2046) (M := 2048) (by decide)
      rw [e1, e2, e3, hh]; clear e1 e2 e3 hh
      go_enter Tryz.func78, Tryz.ntmps78
      go_wp2
      exact bodyPost_ret (v := .agg #[.int .i64 3, .int .i64 0, .int .i64 0]) (by simp [results, Tryz.results78, go_sem]) rfl ⟨rfl, After.rfl.alloc _⟩
    · have he' : (e == 0) = false := by simpa using he
      have he2 : (e != 0) = true := by simpa using he
      obtain ⟨e1, e2, e3⟩ := s_other (m := 2046) (M := 2048) (by decide) he
      rw [e1, e2, e3]; clear e1 e2 e3 hh
      go_enter Tryz.func78, Tryz.ntmps78
      go_wp2
      exact bodyPost_ret (v := .agg #[.int .i64 5, .int .i64 0, .int .i64 0]) (by simp [results, Tryz.results78, go_sem]) rfl ⟨rfl, After.rfl.alloc _⟩
  by_cases h3 : m = (-2046)
  · subst h3
    have hh : kd (-2046) 2048 = 4 := by decide
    by_cases he : e = 0
    · subst he
      obtain ⟨e1, e2, e3⟩ := s_zero (m := (-2046)) (M := 2048) (by decide)
      rw [e1, e2, e3, hh]; clear e1 e2 e3 hh
      go_enter Tryz.func78, Tryz.ntmps78
      go_wp2
      exact bodyPost_ret (v := .agg #[.int .i64 4, .int .i64 0, .int .i64 0]) (by simp [results, Tryz.results78, go_sem]) rfl ⟨rfl, After.rfl.alloc _⟩
    · have he' : (e == 0) = false := by simpa using he
      have he2 : (e != 0) = true := by simpa using he
      obtain ⟨e1, e2, e3⟩ := s_other (m := (-2046)) (M := 2048) (by decide) he
      rw [e1, e2, e3]; clear e1 e2 e3 hh
      go_enter Tryz.func78, Tryz.ntmps78
      go_wp2
      exact bodyPost_ret (v := .agg #[.int .i64 5, .int .i64 0, .int .i64 0]) (by simp [results, Tryz.results78, go_sem]) rfl ⟨rfl, After.rfl.alloc _⟩
  by_cases h4 : m = (-2047)
  · subst h4
    have hh : kd (-2047) 2048 = 5 := by decide
    by_cases he : e = 0
    · subst he
      obtain ⟨e1, e2, e3⟩ := s_zero (m := (-2047)) (M := 2048) (by decide)
      rw [e1, e2, e3, hh]; clear e1 e2 e3 hh
      go_enter Tryz.func78, Tryz.ntmps78
      go_wp2
      exact bodyPost_ret (v := .agg #[.int .i64 5, .int .i64 0, .int .i64 0]) (by simp [results, Tryz.results78, go_sem]) rfl ⟨rfl, After.rfl.alloc _⟩
    · have he' : (e == 0) = false := by simpa using he
      have he2 : (e != 0) = true := by simpa using he
      obtain ⟨e1, e2, e3⟩ := s_other (m := (-2047)) (M := 2048) (by decide) he
      rw [e1, e2, e3]; clear e1 e2 e3 hh
      go_enter Tryz.func78, Tryz.ntmps78
      go_wp2
      exact bodyPost_ret (v := .agg #[.int .i64 5, .int .i64 0, .int .i64 0]) (by simp [results, Tryz.results78, go_sem]) rfl ⟨rfl, After.rfl.alloc _⟩
  have hh : kd m 2048 = 0 := by
    unfold kd
    rw [if_neg (by omega), if_neg (by omega), if_neg (by omega), if_neg (by omega), if_neg (by omega)]
  obtain ⟨e1, e2, e3⟩ := s_num (e := e) hh
  rw [e1, e2, e3]; clear e1 e2 e3 hh
  have g0 : (m == 2047) = false := by simpa using h0
  have g1 : (m == (-2048)) = false := by simpa using h1
  have g2 : (m == 2046) = false := by simpa using h2
  have g3 : (m == (-2046)) = false := by simpa using h3
  have g4 : (m == (-2047)) = false := by simpa using h4
  clear h0 h1 h2 h3 h4
  go_enter Tryz.func78, Tryz.ntmps78
  go_wp2
  exact bodyPost_ret (v := .agg #[.int .i64 0, .int .i64 m, .int .i64 e]) (by simp [results, Tryz.results78, go_sem]) rfl ⟨rfl, After.rfl.alloc _⟩
theorem kindOf_long (m : Int) (w : World) :
    Calls Tryz.prog 80 #[.int .i64 m, .int .i64 8388608] w fun x w' => x = .returned (.int .i64 (kd m 8388608)) ∧ w' = w := by
  by_cases h0 : m = 8388607
  · subst h0
    have hh : kd 8388607 8388608 = 1 := by decide
    rw [hh]; clear hh
    go_enter Tryz.func80, Tryz.ntmps80
    go_wp2
    go_ret
    exact ⟨rfl, rfl⟩
  by_cases h1 : m = (-8388608)
  · subst h1
    have hh : kd (-8388608) 8388608 = 2 := by decide
    rw [hh]; clear hh
    go_enter Tryz.func80, Tryz.ntmps80
    go_wp2
    go_ret
    exact ⟨rfl, rfl⟩
  by_cases h2 : m = 8388606
  · subst h2
    have hh : kd 8388606 8388608 = 3 := by decide
    rw [hh]; clear hh
    go_enter Tryz.func80, Tryz.ntmps80
    go_wp2
    go_ret
    exact ⟨rfl, rfl⟩
  by_cases h3 : m = (-8388606)
  · subst h3
    have hh : kd (-8388606) 8388608 = 4 := by decide
    rw [hh]; clear hh
    go_enter Tryz.func80, Tryz.ntmps80
    go_wp2
    go_ret
    exact ⟨rfl, rfl⟩
  by_cases h4 : m = (-8388607)
  · subst h4
    have hh : kd (-8388607) 8388608 = 5 := by decide
    rw [hh]; clear hh
    go_enter Tryz.func80, Tryz.ntmps80
    go_wp2
    go_ret
    exact ⟨rfl, rfl⟩
  have hh : kd m 8388608 = 0 := by
    unfold kd
    rw [if_neg (by omega), if_neg (by omega), if_neg (by omega), if_neg (by omega), if_neg (by omega)]
  rw [hh]; clear hh
  have g0 : (m == 8388607) = false := by simpa using h0
  have g1 : (m == (-8388608)) = false := by simpa using h1
  have g2 : (m == 8388606) = false := by simpa using h2
  have g3 : (m == (-8388606)) = false := by simpa using h3
  have g4 : (m == (-8388607)) = false := by simpa using h4
  clear h0 h1 h2 h3 h4
  go_enter Tryz.func80, Tryz.ntmps80
  go_wp2
  go_ret
  exact ⟨rfl, rfl⟩
theorem said_long (m e : Int) (w : World) :
    Calls Tryz.prog 55 #[.int .i64 m, .int .i64 e, .int .i64 8388608] w fun x w' => x = .returned (.agg #[.int .i64 (sK m e 8388608), .int .i64 (sM m e 8388608), .int .i64 (sE m e 8388608)]) ∧ After w w' := by
  by_cases hk : kd m 8388608 = 0
  · obtain ⟨e1, e2, e3⟩ := s_num (e := e) hk
    rw [e1, e2, e3]; clear e1 e2 e3
    go_enter Tryz.func55, Tryz.ntmps55
    go_wp2_with (go_at_call 80; refine (kindOf_long _ _).mono ?_; rintro e w' ⟨rfl, rfl⟩; rw [hk])
    exact bodyPost_ret (v := .agg #[.int .i64 0, .int .i64 m, .int .i64 e]) (by simp [results, Tryz.results55, go_sem]) rfl ⟨rfl, After.rfl.alloc _⟩
  · have hk' : (kd m 8388608 == 0) = false := by simpa using hk
    by_cases he : e = 0
    · subst he
      obtain ⟨e1, e2, e3⟩ := s_zero hk
      rw [e1, e2, e3]; clear e1 e2 e3
      generalize hq : kd m 8388608 = q at *
      go_enter Tryz.func55, Tryz.ntmps55
      go_wp2_with (go_at_call 80; refine (kindOf_long _ _).mono ?_; rintro e w' ⟨rfl, rfl⟩; rw [hq])
      exact bodyPost_ret (v := .agg #[.int .i64 q, .int .i64 0, .int .i64 0]) (by simp [results, Tryz.results55, go_sem]) rfl ⟨rfl, After.rfl.alloc _⟩
    · have he' : (e == 0) = false := by simpa using he
      have he2 : (e != 0) = true := by simpa using he
      obtain ⟨e1, e2, e3⟩ := s_other hk he
      rw [e1, e2, e3]; clear e1 e2 e3
      generalize hq : kd m 8388608 = q at *
      go_enter Tryz.func55, Tryz.ntmps55
      go_wp2_with (go_at_call 80; refine (kindOf_long _ _).mono ?_; rintro e w' ⟨rfl, rfl⟩; rw [hq])
      exact bodyPost_ret (v := .agg #[.int .i64 5, .int .i64 0, .int .i64 0]) (by simp [results, Tryz.results55, go_sem]) rfl ⟨rfl, After.rfl.alloc _⟩
theorem refSaid_long (m e : Int) (w : World) :
    Calls Tryz.prog 78 #[.int .i64 m, .int .i64 e, .int .i64 8388608] w fun x w' => x = .returned (.agg #[.int .i64 (sK m e 8388608), .int .i64 (sM m e 8388608), .int .i64 (sE m e 8388608)]) ∧ After w w' := by
  by_cases h0 : m = 8388607
  · subst h0
    have hh : kd 8388607 8388608 = 1 := by decide
    by_cases he : e = 0
    · subst he
      obtain ⟨e1, e2, e3⟩ := s_zero (m := 8388607) (M := 8388608) (by decide)
      rw [e1, e2, e3, hh]; clear e1 e2 e3 hh
      go_enter Tryz.func78, Tryz.ntmps78
      go_wp2
      exact bodyPost_ret (v := .agg #[.int .i64 1, .int .i64 0, .int .i64 0]) (by simp [results, Tryz.results78, go_sem]) rfl ⟨rfl, After.rfl.alloc _⟩
    · have he' : (e == 0) = false := by simpa using he
      have he2 : (e != 0) = true := by simpa using he
      obtain ⟨e1, e2, e3⟩ := s_other (m := 8388607) (M := 8388608) (by decide) he
      rw [e1, e2, e3]; clear e1 e2 e3 hh
      go_enter Tryz.func78, Tryz.ntmps78
      go_wp2
      exact bodyPost_ret (v := .agg #[.int .i64 5, .int .i64 0, .int .i64 0]) (by simp [results, Tryz.results78, go_sem]) rfl ⟨rfl, After.rfl.alloc _⟩
  by_cases h1 : m = (-8388608)
  · subst h1
    have hh : kd (-8388608) 8388608 = 2 := by decide
    by_cases he : e = 0
    · subst he
      obtain ⟨e1, e2, e3⟩ := s_zero (m := (-8388608)) (M := 8388608) (by decide)
      rw [e1, e2, e3, hh]; clear e1 e2 e3 hh
      go_enter Tryz.func78, Tryz.ntmps78
      go_wp2
      exact bodyPost_ret (v := .agg #[.int .i64 2, .int .i64 0, .int .i64 0]) (by simp [results, Tryz.results78, go_sem]) rfl ⟨rfl, After.rfl.alloc _⟩
    · have he' : (e == 0) = false := by simpa using he
      have he2 : (e != 0) = true := by simpa using he
      obtain ⟨e1, e2, e3⟩ := s_other (m := (-8388608)) (M := 8388608) (by decide) he
      rw [e1, e2, e3]; clear e1 e2 e3 hh
      go_enter Tryz.func78, Tryz.ntmps78
      go_wp2
      exact bodyPost_ret (v := .agg #[.int .i64 5, .int .i64 0, .int .i64 0]) (by simp [results, Tryz.results78, go_sem]) rfl ⟨rfl, After.rfl.alloc _⟩
  by_cases h2 : m = 8388606
  · subst h2
    have hh : kd 8388606 8388608 = 3 := by decide
    by_cases he : e = 0
    · subst he
      obtain ⟨e1, e2, e3⟩ := s_zero (m := 8388606) (M := 8388608) (by decide)
      rw [e1, e2, e3, hh]; clear e1 e2 e3 hh
      go_enter Tryz.func78, Tryz.ntmps78
      go_wp2
      exact bodyPost_ret (v := .agg #[.int .i64 3, .int .i64 0, .int .i64 0]) (by simp [results, Tryz.results78, go_sem]) rfl ⟨rfl, After.rfl.alloc _⟩
    · have he' : (e == 0) = false := by simpa using he
      have he2 : (e != 0) = true := by simpa using he
      obtain ⟨e1, e2, e3⟩ := s_other (m := 8388606) (M := 8388608) (by decide) he
      rw [e1, e2, e3]; clear e1 e2 e3 hh
      go_enter Tryz.func78, Tryz.ntmps78
      go_wp2
      exact bodyPost_ret (v := .agg #[.int .i64 5, .int .i64 0, .int .i64 0]) (by simp [results, Tryz.results78, go_sem]) rfl ⟨rfl, After.rfl.alloc _⟩
  by_cases h3 : m = (-8388606)
  · subst h3
    have hh : kd (-8388606) 8388608 = 4 := by decide
    by_cases he : e = 0
    · subst he
      obtain ⟨e1, e2, e3⟩ := s_zero (m := (-8388606)) (M := 8388608) (by decide)
      rw [e1, e2, e3, hh]; clear e1 e2 e3 hh
      go_enter Tryz.func78, Tryz.ntmps78
      go_wp2
      exact bodyPost_ret (v := .agg #[.int .i64 4, .int .i64 0, .int .i64 0]) (by simp [results, Tryz.results78, go_sem]) rfl ⟨rfl, After.rfl.alloc _⟩
    · have he' : (e == 0) = false := by simpa using he
      have he2 : (e != 0) = true := by simpa using he
      obtain ⟨e1, e2, e3⟩ := s_other (m := (-8388606)) (M := 8388608) (by decide) he
      rw [e1, e2, e3]; clear e1 e2 e3 hh
      go_enter Tryz.func78, Tryz.ntmps78
      go_wp2
      exact bodyPost_ret (v := .agg #[.int .i64 5, .int .i64 0, .int .i64 0]) (by simp [results, Tryz.results78, go_sem]) rfl ⟨rfl, After.rfl.alloc _⟩
  by_cases h4 : m = (-8388607)
  · subst h4
    have hh : kd (-8388607) 8388608 = 5 := by decide
    by_cases he : e = 0
    · subst he
      obtain ⟨e1, e2, e3⟩ := s_zero (m := (-8388607)) (M := 8388608) (by decide)
      rw [e1, e2, e3, hh]; clear e1 e2 e3 hh
      go_enter Tryz.func78, Tryz.ntmps78
      go_wp2
      exact bodyPost_ret (v := .agg #[.int .i64 5, .int .i64 0, .int .i64 0]) (by simp [results, Tryz.results78, go_sem]) rfl ⟨rfl, After.rfl.alloc _⟩
    · have he' : (e == 0) = false := by simpa using he
      have he2 : (e != 0) = true := by simpa using he
      obtain ⟨e1, e2, e3⟩ := s_other (m := (-8388607)) (M := 8388608) (by decide) he
      rw [e1, e2, e3]; clear e1 e2 e3 hh
      go_enter Tryz.func78, Tryz.ntmps78
      go_wp2
      exact bodyPost_ret (v := .agg #[.int .i64 5, .int .i64 0, .int .i64 0]) (by simp [results, Tryz.results78, go_sem]) rfl ⟨rfl, After.rfl.alloc _⟩
  have hh : kd m 8388608 = 0 := by
    unfold kd
    rw [if_neg (by omega), if_neg (by omega), if_neg (by omega), if_neg (by omega), if_neg (by omega)]
  obtain ⟨e1, e2, e3⟩ := s_num (e := e) hh
  rw [e1, e2, e3]; clear e1 e2 e3 hh
  have g0 : (m == 8388607) = false := by simpa using h0
  have g1 : (m == (-8388608)) = false := by simpa using h1
  have g2 : (m == 8388606) = false := by simpa using h2
  have g3 : (m == (-8388606)) = false := by simpa using h3
  have g4 : (m == (-8388607)) = false := by simpa using h4
  clear h0 h1 h2 h3 h4
  go_enter Tryz.func78, Tryz.ntmps78
  go_wp2
  exact bodyPost_ret (v := .agg #[.int .i64 0, .int .i64 m, .int .i64 e]) (by simp [results, Tryz.results78, go_sem]) rfl ⟨rfl, After.rfl.alloc _⟩

theorem refSigned_any (n h : Int) (w : World) (h1 : 0 ≤ n) (h2 : n ≤ 4294967296) (h3 : 0 ≤ h) (h4 : h ≤ 8388608) :
    Calls Tryz.prog 79 #[.int .i64 n, .int .i64 h] w fun x w' => x = .returned (.int .i64 (sgd n h)) ∧ w' = w := by
  by_cases hc : n < h
  · have hh : sgd n h = n := by unfold sgd; rw [if_pos hc]
    rw [hh]; clear hh
    go_enter Tryz.func79, Tryz.ntmps79
    go_wp2
    go_ret
    exact ⟨rfl, rfl⟩
  · have hh : sgd n h = n - 2 * h := by unfold sgd; rw [if_neg hc]
    rw [hh]; clear hh
    go_enter Tryz.func79, Tryz.ntmps79
    go_wp2
    go_ret
    exact ⟨rfl, rfl⟩
/-- What 16 bits, what 32 bits say: kind, mantissa, exponent. -/
def shK (x : Int) : Int := sK (mS x) (eS x) 2048
def shM (x : Int) : Int := sM (mS x) (eS x) 2048
def shE (x : Int) : Int := sE (mS x) (eS x) 2048
def loK (y : Int) : Int := sK (mL y) (eL y) 8388608
def loM (y : Int) : Int := sM (mL y) (eL y) 8388608
def loE (y : Int) : Int := sE (mL y) (eL y) 8388608
theorem mS_go (x : Int) (_h1 : 0 ≤ x) (_h2 : x ≤ 65535) : wrap64 (IntKind.i16.wrap (IntKind.u16.wrap (x * 16))) / 16 = mS x := by
  have e1 : IntKind.u16.wrap (x * 16) = x * 16 % 65536 := rfl
  have e2 : ∀ y : Int, IntKind.i16.wrap y = (y + 32768) % 65536 - 32768 := fun y => by simp [IntKind.wrap, IntKind.signed, IntKind.bits]; omega
  rw [e1, e2]
  unfold wrap64 mS sgd
  split <;> omega
theorem eS_go (x : Int) (h1 : 0 ≤ x) (h2 : x ≤ 65535) : wrap64 (IntKind.i16.wrap x) / 4096 = eS x := by
  have e2 : ∀ y : Int, IntKind.i16.wrap y = (y + 32768) % 65536 - 32768 := fun y => by simp [IntKind.wrap, IntKind.signed, IntKind.bits]; omega
  rw [e2]
  unfold wrap64 eS sgd
  split <;> omega
theorem mL_go (x : Int) (_h1 : 0 ≤ x) (_h2 : x ≤ 4294967295) : wrap64 (wrap32 (x * 256 % 4294967296)) / 256 = mL x := by
  unfold wrap64 wrap32 mL sgd
  split <;> omega
theorem eL_go (x : Int) (h1 : 0 ≤ x) (h2 : x ≤ 4294967295) : wrap64 (wrap32 x) / 16777216 = eL x := by
  unfold wrap64 wrap32 eL sgd
  split <;> omega

theorem short_any (x : Int) (w : World) (h1 : 0 ≤ x) (h2 : x ≤ 65535) :
    Calls Tryz.prog 32 #[.int .u16 x] w fun r w' => r = .returned (.agg #[.int .i64 (shK x), .int .i64 (shM x), .int .i64 (shE x)]) ∧ After w w' := by
  have hA := hideIt (mS_go x h1 h2)
  have hB := hideIt (eS_go x h1 h2)
  have d1 : sK (mS x) (eS x) 2048 = shK x := rfl
  have d2 : sM (mS x) (eS x) 2048 = shM x := rfl
  have d3 : sE (mS x) (eS x) 2048 = shE x := rfl
  have d1 := hideIt d1
  have d2 := hideIt d2
  have d3 := hideIt d3
  go_enter Tryz.func32, Tryz.ntmps32
  go_wp2_with (go_at_call 55; refine (said_short _ _ _).mono ?_; rintro e w' ⟨rfl, ha⟩; obtain ⟨hc, hf⟩ := ha.cellsOf; rw [hA.out, hB.out, d1.out, d2.out, d3.out])
  exact bodyPost_ret (v := .agg #[.int .i64 (shK x), .int .i64 (shM x), .int .i64 (shE x)]) (by simp [results, Tryz.results32, go_sem, hc]) rfl ⟨rfl, (((((After.rfl.alloc _).trans ha).set _ (Nat.le_refl _) _).set _ (Nat.le_refl _) _).set _ (Nat.le_refl _) _)⟩
theorem long_any (x : Int) (w : World) (h1 : 0 ≤ x) (h2 : x ≤ 4294967295) :
    Calls Tryz.prog 33 #[.int .u32 x] w fun r w' => r = .returned (.agg #[.int .i64 (loK x), .int .i64 (loM x), .int .i64 (loE x)]) ∧ After w w' := by
  have hA := hideIt (mL_go x h1 h2)
  have hB := hideIt (eL_go x h1 h2)
  have d1 : sK (mL x) (eL x) 8388608 = loK x := rfl
  have d2 : sM (mL x) (eL x) 8388608 = loM x := rfl
  have d3 : sE (mL x) (eL x) 8388608 = loE x := rfl
  have d1 := hideIt d1
  have d2 := hideIt d2
  have d3 := hideIt d3
  go_enter Tryz.func33, Tryz.ntmps33
  go_wp2_with (go_at_call 55; refine (said_long _ _ _).mono ?_; rintro e w' ⟨rfl, ha⟩; obtain ⟨hc, hf⟩ := ha.cellsOf; rw [hA.out, hB.out, d1.out, d2.out, d3.out])
  exact bodyPost_ret (v := .agg #[.int .i64 (loK x), .int .i64 (loM x), .int .i64 (loE x)]) (by simp [results, Tryz.results33, go_sem, hc]) rfl ⟨rfl, (((((After.rfl.alloc _).trans ha).set _ (Nat.le_refl _) _).set _ (Nat.le_refl _) _).set _ (Nat.le_refl _) _)⟩

theorem refShort_any (x : Int) (w : World) (h1 : 0 ≤ x) (h2 : x ≤ 65535) :
    Calls Tryz.prog 54 #[.int .u16 x] w fun r w' => r = .returned (.agg #[.int .i64 (shK x), .int .i64 (shM x), .int .i64 (shE x)]) ∧ After w w' := by
  have d1 : sK (sgd (x % 4096) 2048) (sgd (x / 4096) 8) 2048 = shK x := rfl
  have d2 : sM (sgd (x % 4096) 2048) (sgd (x / 4096) 8) 2048 = shM x := rfl
  have d3 : sE (sgd (x % 4096) 2048) (sgd (x / 4096) 8) 2048 = shE x := rfl
  have d1 := hideIt d1
  have d2 := hideIt d2
  have d3 := hideIt d3
  go_enter Tryz.func54, Tryz.ntmps54
  go_wp2_with (first | (go_at_call 79; refine (refSigned_any _ _ _ (by omega) (by omega) (by omega) (by omega)).mono ?_; rintro e w' ⟨rfl, rfl⟩) | (go_at_call 78; refine (refSaid_short _ _ _).mono ?_; rintro e w' ⟨rfl, ha⟩; obtain ⟨hc, hf⟩ := ha.cellsOf; rw [d1.out, d2.out, d3.out]))
  exact bodyPost_ret (v := .agg #[.int .i64 (shK x), .int .i64 (shM x), .int .i64 (shE x)]) (by simp [results, Tryz.results54, go_sem, hc]) rfl ⟨rfl, (((((After.rfl.alloc _).trans ha).set _ (Nat.le_refl _) _).set _ (Nat.le_refl _) _).set _ (Nat.le_refl _) _)⟩
theorem refLong_any (x : Int) (w : World) (h1 : 0 ≤ x) (h2 : x ≤ 4294967295) :
    Calls Tryz.prog 53 #[.int .u32 x] w fun r w' => r = .returned (.agg #[.int .i64 (loK x), .int .i64 (loM x), .int .i64 (loE x)]) ∧ After w w' := by
  have d1 : sK (sgd (x % 16777216) 8388608) (sgd (x / 16777216) 128) 8388608 = loK x := rfl
  have d2 : sM (sgd (x % 16777216) 8388608) (sgd (x / 16777216) 128) 8388608 = loM x := rfl
  have d3 : sE (sgd (x % 16777216) 8388608) (sgd (x / 16777216) 128) 8388608 = loE x := rfl
  have d1 := hideIt d1
  have d2 := hideIt d2
  have d3 := hideIt d3
  go_enter Tryz.func53, Tryz.ntmps53
  go_wp2_with (first | (go_at_call 79; refine (refSigned_any _ _ _ (by omega) (by omega) (by omega) (by omega)).mono ?_; rintro e w' ⟨rfl, rfl⟩) | (go_at_call 78; refine (refSaid_long _ _ _).mono ?_; rintro e w' ⟨rfl, ha⟩; obtain ⟨hc, hf⟩ := ha.cellsOf; rw [d1.out, d2.out, d3.out]))
  exact bodyPost_ret (v := .agg #[.int .i64 (loK x), .int .i64 (loM x), .int .i64 (loE x)]) (by simp [results, Tryz.results53, go_sem, hc]) rfl ⟨rfl, (((((After.rfl.alloc _).trans ha).set _ (Nat.le_refl _) _).set _ (Nat.le_refl _) _).set _ (Nat.le_refl _) _)⟩
end Go.Proofs.YthcfdoafncbliaaGreat
/-
  What a manager is, what it makes of a message, over whole numbers and lists alone; where it lies in memory.
-/
namespace Go.Proofs.YthcfdoafncbliaaGreat
open Go.RowKit Go.Maps
set_option maxRecDepth 8000
/-- Where an association stands. -/
structure Mg where
  state : Int
  config : Int
  objs : List Ob
def Mg.new : Mg := ⟨0, 0, []⟩
/-- A message that is answered: it has no lists. -/
structure An where
  kind : Int
  config : Int
  result : Int
  reason : Int
/-- A sample. -/
structure Sm where
  h : Int
  k : Int
  m : Int
  e : Int
def Sm.val (s : Sm) : Value := .agg #[.int .i64 s.h, .int .i64 s.k, .int .i64 s.m, .int .i64 s.e]
def longSm (o : Bi) : Sm := ⟨o.h, loK o.b, loM o.b, loE o.b⟩
def shortSm (o : Bi) : Sm := ⟨o.h, shK (o.b % 65536), shM (o.b % 65536), shE (o.b % 65536)⟩
def smOf (o : Bi) : Sm := if o.l = true then longSm o else shortSm o
/-- A number has the handle of an object, and is long just if that object is. -/
def hasO (l : List Ob) (o : Bi) : Bool := l.any fun p => decide (p.h = o.h ∧ p.l = o.l)
/-- All that is behind a message: the manager, what is answered, what is told, the error. -/
structure Out where
  st : Mg
  an : Option An
  sm : List Sm
  er : Int
def brk : Out := ⟨Mg.new, some ⟨58880, 0, 0, 0⟩, [], 70⟩
def askF (st : Mg) (M : Msg) : Out := if M.config = 0 then ⟨st, some ⟨58112, 0, 1, 0⟩, [], 0⟩ else ⟨⟨1, M.config, []⟩, some ⟨58112, M.config, 3, 0⟩, [], 0⟩
def cfgF (st : Mg) (M : Msg) : Out := if M.config = st.config then ⟨⟨2, 0, M.objs⟩, some ⟨3357, M.config, 0, 0⟩, [], 0⟩ else ⟨st, some ⟨3357, M.config, 1, 0⟩, [], 0⟩
def scanF (st : Mg) (M : Msg) : Out := if M.obs.all (hasO st.objs) = true then ⟨st, none, M.obs.map smOf, 0⟩ else ⟨st, none, [], 70⟩
def relF (M : Msg) : Out := ⟨Mg.new, some ⟨58624, 0, 0, M.reason⟩, [], 0⟩
def abtF : Out := ⟨Mg.new, none, [], 0⟩
/-- A message that may be, handled. -/
def handF (st : Mg) (M : Msg) : Out :=
  if M.kind = 58880 then abtF
  else if M.kind = 57856 ∧ st.state = 0 then askF st M
  else if M.kind = 3356 ∧ st.state = 1 then cfgF st M
  else if M.kind = 3358 ∧ st.state = 2 then scanF st M
  else if M.kind = 58368 ∧ st.state ≠ 0 then relF M
  else brk
/-- The handles' places: block mb is a map that says them. -/
def LaysN (w : World) (mb n : Nat) (l : List Ob) : Prop := ∃ D : DataW Unit, w.ownsMap Tryz.prog 3 (plainElem Tryz.prog 3) mb n D ∧ (∀ (i : Nat) (o : Ob), l[i]? = some o → Maps.has D (.int .i64 o.h) = true ∧ D.atKey (.int .i64 o.h) (.lit (.int .i64 0)) = .lit (.int .i64 (i : Int))) ∧ ∀ h : Int, (∀ o ∈ l, o.h ≠ h) → Maps.has D (.int .i64 h) = false
def Lays (w : World) (mb : Nat) (l : List Ob) : Prop := ∃ n, LaysN w mb n l
theorem LaysN.but {S : Nat → Prop} {w w' : World} {mb n : Nat} {l : List Ob} (x : LaysN w mb n l) (b : But S w w') (hn : ¬ S mb) : LaysN w' mb n l := by
  obtain ⟨D, ⟨es, cl, hb, hf⟩, h1, h2⟩ := x
  exact ⟨D, ⟨es, cl, (b.block mb (Array.getElem?_eq_some_iff.1 hb).1 hn).trans hb, hf⟩, h1, h2⟩
theorem Lays.but {S : Nat → Prop} {w w' : World} {mb : Nat} {l : List Ob} (x : Lays w mb l) (b : But S w w') (hn : ¬ S mb) : Lays w' mb l := by
  obtain ⟨n, x⟩ := x
  exact ⟨n, x.but b hn⟩
theorem keyed3 : Keyed Tryz.prog 3 := int_keyed Tryz.underlying3
theorem zero3 (w : World) : (zeroValue 3).run Tryz.prog w = .ok (.int .i64 0) w := by kernel_rfl
/-- What a look into the map says. -/
theorem Lays.look {w : World} {mb : Nat} {l : List Ob} (x : Lays w mb l) (h : Int) (hh : 0 ≤ h ∧ h ≤ 65535) :
    (∃ (i : Nat) (o : Ob), l[i]? = some o ∧ o.h = h ∧ ∀ m, (Instr.lookup 49 (.map (some mb)) (.int .i64 h) true).run Tryz.prog (w.drewN m) = .ok (.tuple #[.int .i64 (i : Int), .bool true]) (w.drewN m)) ∨ ((∀ o ∈ l, o.h ≠ h) ∧ ∀ m, (Instr.lookup 49 (.map (some mb)) (.int .i64 h) true).run Tryz.prog (w.drewN m) = .ok (.tuple #[.int .i64 0, .bool false]) (w.drewN m)) := by
  obtain ⟨n, D, ho, h1, h2⟩ := x
  have hk : keyOf Tryz.prog 3 (.int .i64 h) = some (.int .i64 h) := keyOf_int_mk Tryz.underlying3 (WalkArith.wf_i64 (by omega))
  have all : ∀ m, ∃ c, (Instr.lookup 49 (.map (some mb)) (.int .i64 h) true).run Tryz.prog (w.drewN m) = .ok (.tuple #[.int .i64 c, .bool (Maps.has D (.int .i64 h))]) (w.drewN m) ∧ D.atKey (.int .i64 h) (.lit (.int .i64 0)) = .lit (.int .i64 c) := by
    intro m
    have ho' : (w.drewN m).ownsMap Tryz.prog 3 (plainElem Tryz.prog 3) mb n D := ho
    obtain ⟨v, ps, hrun, hv⟩ := ho'.look_ok keyed3 Tryz.underlying49 (zero3 _) (plainElem_int Tryz.underlying3 (by decide)) hk
    obtain ⟨c, rfl, hc, _⟩ := plainElem_int_inv Tryz.underlying3 hv
    exact ⟨c, hrun, congrArg Prod.fst hc⟩
  by_cases hx : ∃ o ∈ l, o.h = h
  · obtain ⟨o, ho, rfl⟩ := hx
    obtain ⟨i, hi, rfl⟩ := List.mem_iff_getElem.1 ho
    obtain ⟨e1, e2⟩ := h1 i _ (List.getElem?_eq_getElem hi)
    refine .inl ⟨i, _, List.getElem?_eq_getElem hi, rfl, fun m => ?_⟩
    obtain ⟨c, hrun, hc⟩ := all m
    have hci : c = (i : Int) := by
      have := hc.symm.trans e2
      cases this
      rfl
    subst hci
    rw [e1] at hrun
    exact hrun
  · have hx' : ∀ o ∈ l, o.h ≠ h := fun o ho e => hx ⟨o, ho, e⟩
    refine .inr ⟨hx', fun m => ?_⟩
    obtain ⟨c, hrun, hc⟩ := all m
    have hci : c = 0 := by
      have := hc.symm.trans (Maps.atKey_of_not_has (h2 h hx') _)
      cases this
      rfl
    subst hci
    rw [h2 h hx'] at hrun
    exact hrun
/-- A manager lies in block g; what it has lies in blocks of which P holds. -/
structure MgX (w : World) (P : Nat → Prop) (g : Nat) (st : Mg) (oa : Option Addr) (oc : Nat) (pv : Value) : Prop where
  at0 : w.heap[g]? = some (.cells #[.bool true, .int .i64 st.state, .int .i64 st.config, .slice oa st.objs.length oc, pv] 51 (0, 0))
  gp : P g
  or : RowT w oa st.objs.length (st.objs.map Ob.t3)
  on : oa = none → st.objs.length = 0 ∧ oc = 0
  op : ∀ y, oa = some y → 0 < st.objs.length → P y.block
  ol : st.objs.length ≤ 16
  od : st.objs.Pairwise (fun a b => a.h ≠ b.h)
  mp : st.state = 2 → ∃ mb, pv = .map (some mb) ∧ P mb ∧ Lays w mb st.objs
  sv : st.state = 0 ∨ st.state = 1 ∨ st.state = 2
  no : st.state ≠ 2 → st.objs = []
def MgAt (w : World) (P : Nat → Prop) (g : Nat) (st : Mg) : Prop := ∃ oa oc pv, MgX w P g st oa oc pv
theorem MgX.but {S P : Nat → Prop} {w w' : World} {g : Nat} {st : Mg} {oa : Option Addr} {oc : Nat} {pv : Value} (x : MgX w P g st oa oc pv) (b : But S w w') (hn : ∀ k, P k → ¬ S k) : MgX w' P g st oa oc pv :=
  ⟨(b.block g (Array.getElem?_eq_some_iff.1 x.at0).1 (hn _ x.gp)).trans x.at0, x.gp, x.or.but b (fun y hy h0 => hn _ (x.op y hy h0)), x.on, x.op, x.ol, x.od, fun h => by
    obtain ⟨mb, e, hp, hl⟩ := x.mp h
    exact ⟨mb, e, hp, hl.but b (hn _ hp)⟩, x.sv, x.no⟩
theorem MgX.mono {P T : Nat → Prop} {w : World} {g : Nat} {st : Mg} {oa : Option Addr} {oc : Nat} {pv : Value} (x : MgX w P g st oa oc pv) (h : ∀ k, P k → T k) : MgX w T g st oa oc pv :=
  ⟨x.at0, h _ x.gp, x.or, x.on, fun y hy h0 => h _ (x.op y hy h0), x.ol, x.od, fun e => by
    obtain ⟨mb, e, hp, hl⟩ := x.mp e
    exact ⟨mb, e, h _ hp, hl⟩, x.sv, x.no⟩
theorem MgAt.but {S P : Nat → Prop} {w w' : World} {g : Nat} {st : Mg} (x : MgAt w P g st) (b : But S w w') (hn : ∀ k, P k → ¬ S k) : MgAt w' P g st := by
  obtain ⟨oa, oc, pv, x⟩ := x
  exact ⟨oa, oc, pv, x.but b hn⟩
theorem MgAt.after {P : Nat → Prop} {w w' : World} {g : Nat} {st : Mg} (x : MgAt w P g st) (b : After w w') : MgAt w' P g st := x.but b (fun _ _ t => t)
theorem MgAt.mono {P T : Nat → Prop} {w : World} {g : Nat} {st : Mg} (x : MgAt w P g st) (h : ∀ k, P k → T k) : MgAt w T g st := by
  obtain ⟨oa, oc, pv, x⟩ := x
  exact ⟨oa, oc, pv, x.mono h⟩
theorem MgX.lt {P : Nat → Prop} {w : World} {g : Nat} {st : Mg} {oa : Option Addr} {oc : Nat} {pv : Value} (x : MgX w P g st oa oc pv) : g < w.heap.size := (Array.getElem?_eq_some_iff.1 x.at0).1
/-- The cells of a block of five. -/
theorem five_at {w : World} {g : Nat} {T : TypeId} {x0 x1 x2 x3 x4 : Value} (h : w.heap[g]? = some (.cells #[x0, x1, x2, x3, x4] T (0, 0))) :
    g < w.heap.size ∧ (w.cell? ⟨g, 0, none⟩ = some x0 ∧ w.cell? ⟨g, 1, none⟩ = some x1 ∧ w.cell? ⟨g, 2, none⟩ = some x2 ∧ w.cell? ⟨g, 3, none⟩ = some x3 ∧ w.cell? ⟨g, 4, none⟩ = some x4) ∧ (w.frozen? ⟨g, 0, none⟩ = false ∧ w.frozen? ⟨g, 1, none⟩ = false ∧ w.frozen? ⟨g, 2, none⟩ = false ∧ w.frozen? ⟨g, 3, none⟩ = false ∧ w.frozen? ⟨g, 4, none⟩ = false) := by
  refine ⟨(Array.getElem?_eq_some_iff.1 h).1, ⟨?_, ?_, ?_, ?_, ?_⟩, ?_, ?_, ?_, ?_, ?_⟩
  iterate 5 · simp [World.cell?, h]
  all_goals simp [World.frozen?, h]
/-- One answer, or none, in new memory. -/
def An.cells (a : An) : Array Value := #[.int .i64 a.kind, .slice none 0 0, .int .i64 a.config, .int .i64 a.result, .int .i64 a.reason, .slice none 0 0, .slice none 0 0]
def AnsAt (w : World) (B : Nat) (v : Value) : Option An → Prop
  | none => v = .slice none 0 0
  | some a => ∃ b, v = .slice (some ⟨b, 0, none⟩) 1 1 ∧ B ≤ b ∧ w.heap[b]? = some (.cells a.cells 31 (0, 0))
theorem AnsAt.but {S : Nat → Prop} {w w' : World} {B : Nat} {v : Value} {an : Option An} (x : AnsAt w B v an) (b : But S w w') (hs : ∀ k, B ≤ k → ¬ S k) : AnsAt w' B v an := by
  cases an with
  | none => exact x
  | some a =>
    obtain ⟨k, e, hb, hc⟩ := x
    exact ⟨k, e, hb, (b.block k (Array.getElem?_eq_some_iff.1 hc).1 (hs k hb)).trans hc⟩
theorem AnsAt.after {w w' : World} {B : Nat} {v : Value} {an : Option An} (x : AnsAt w B v an) (b : After w w') : AnsAt w' B v an := x.but b (fun _ _ t => t)
theorem AnsAt.mono {w : World} {B C : Nat} {v : Value} {an : Option An} (x : AnsAt w B v an) (h : C ≤ B) : AnsAt w C v an := by
  cases an with
  | none => exact x
  | some a =>
    obtain ⟨k, e, hb, hc⟩ := x
    exact ⟨k, e, Nat.le_trans h hb, hc⟩
/-- Samples in a row. -/
def RowQ (w : World) (a : Option Addr) (l : List Sm) : Prop :=
  ∀ i s, l[i]? = some s → ∃ b off, a = some ⟨b, off, none⟩ ∧ b < w.heap.size ∧ w.cell? ⟨b, off + i * 4, none⟩ = some (.int .i64 s.h) ∧ w.cell? ⟨b, off + i * 4 + 1, none⟩ = some (.int .i64 s.k) ∧ w.cell? ⟨b, off + i * 4 + 2, none⟩ = some (.int .i64 s.m) ∧ w.cell? ⟨b, off + i * 4 + 3, none⟩ = some (.int .i64 s.e)
def SmAt (w : World) (B : Nat) (v : Value) (l : List Sm) : Prop := ∃ a c, v = .slice a l.length c ∧ RowQ w a l ∧ (a = none → l.length = 0 ∧ c = 0) ∧ ∀ y, a = some y → B ≤ y.block
theorem RowQ.but {S : Nat → Prop} {w w' : World} {a : Option Addr} {l : List Sm} (x : RowQ w a l) (b : But S w w') (hn : ∀ y, a = some y → ¬ S y.block) : RowQ w' a l := by
  intro i s hs
  obtain ⟨k, off, e, hk, c0, c1, c2, c3⟩ := x i s hs
  have hk' := hn _ e
  exact ⟨k, off, e, Nat.lt_of_lt_of_le hk b.size, by rw [b.cell hk hk']; exact c0, by rw [b.cell hk hk']; exact c1, by rw [b.cell hk hk']; exact c2, by rw [b.cell hk hk']; exact c3⟩
theorem SmAt.but {S : Nat → Prop} {w w' : World} {B : Nat} {v : Value} {l : List Sm} (x : SmAt w B v l) (b : But S w w') (hs : ∀ k, B ≤ k → ¬ S k) : SmAt w' B v l := by
  obtain ⟨a, c, e, hr, hn, hb⟩ := x
  exact ⟨a, c, e, hr.but b (fun y hy => hs _ (hb y hy)), hn, hb⟩
theorem SmAt.after {w w' : World} {B : Nat} {v : Value} {l : List Sm} (x : SmAt w B v l) (b : After w w') : SmAt w' B v l := x.but b (fun _ _ t => t)
theorem SmAt.mono {w : World} {B C : Nat} {v : Value} {l : List Sm} (x : SmAt w B v l) (h : C ≤ B) : SmAt w C v l := by
  obtain ⟨a, c, e, hr, hn, hb⟩ := x
  exact ⟨a, c, e, hr, hn, fun y hy => Nat.le_trans h (hb y hy)⟩
theorem SmAt.nil (w : World) (B : Nat) : SmAt w B (.slice none 0 0) [] := ⟨none, 0, rfl, (fun i s h => by simp at h), fun _ => ⟨rfl, rfl⟩, fun y h => by cases h⟩
end Go.Proofs.YthcfdoafncbliaaGreat
