/-
  What follows of alarms, over plain data alone: never forgotten, paused or not, how priorities grow.
-/
import Derived.Test.YthggkpmhcdmalaaAlP
namespace Go.Proofs.Ythggkpmhcdmalaa
/-- What is raised or latched. -/
def As.due (x : As) : Bool := decide (x.ph = 1 ∨ x.ph = 3)
/-- The condition was so at the last step. -/
def As.so (x : As) : Bool := decide (x.ph = 1 ∨ x.ph = 2)
theorem wt_ph (x : As) : (wtS x).ph = x.ph := by unfold wtS; split <;> rfl
theorem mv_so {s : Sp} {x : As} (h : x.ph = 0 ∨ x.ph = 1 ∨ x.ph = 2 ∨ x.ph = 3) (a : Bool) : (mvS s x a).so = a := by
  unfold mvS As.so
  obtain ⟨ph, pr, si, pa⟩ := x
  dsimp only at h ⊢
  rcases h with rfl | rfl | rfl | rfl <;> cases a <;> cases s.la <;> simp
  all_goals
    split
    · split <;> exact .inl rfl
    · exact .inl rfl
theorem mv_due {s : Sp} (hl : s.la = true) {x : As} (h : x.ph = 0 ∨ x.ph = 1 ∨ x.ph = 2 ∨ x.ph = 3) (a : Bool) : (mvS s x a).due = (x.due || decide (mvE s x a = 1)) := by
  unfold mvS mvE As.due
  obtain ⟨ph, pr, si, pa⟩ := x
  dsimp only at h ⊢
  rw [hl]
  rcases h with rfl | rfl | rfl | rfl <;> cases a <;> simp
  all_goals
    split
    · split <;> simp
    · simp
/-- Whether it was raised is told by the events. -/
def told (l : List Int) (q : Bool) : Bool := l.foldl (fun b z => b || decide (z = 1)) q
theorem told_st (s : Sp) (x : As) (a q : Bool) : told (stE s x a) q = (q || decide (mvE s (wtS x) a = 1)) := by
  unfold told stE evs
  generalize mvE s (wtS x) a = m
  have : wtE x = 0 ∨ wtE x = 4 := by unfold wtE; split <;> simp
  by_cases h0 : m = 0
  · rcases this with e | e <;> rw [e] <;> simp [h0]
  · rcases this with e | e <;> rw [e] <;> simp [h0]
theorem st_so {s : Sp} {x : As} (h : s.Stands x) (a : Bool) : (stS s x a).so = a := mv_so (by rw [wt_ph]; exact h.ph) a
theorem wt_due (x : As) : (wtS x).due = x.due := by unfold As.due; rw [wt_ph]
theorem st_due {s : Sp} (hl : s.la = true) {x : As} (h : s.Stands x) (a : Bool) : (stS s x a).due = told (stE s x a) x.due := by
  unfold stS
  rw [mv_due hl (by rw [wt_ph]; exact h.ph), told_st, wt_due]
theorem ak_so {x : As} (h : x.ph = 0 ∨ x.ph = 1 ∨ x.ph = 2 ∨ x.ph = 3) : (akS x).so = x.so := by
  unfold akS As.so
  obtain ⟨ph, pr, si, pa⟩ := x
  dsimp only at h ⊢
  rcases h with rfl | rfl | rfl | rfl <;> simp
theorem ak_due {x : As} (h : x.ph = 0 ∨ x.ph = 1 ∨ x.ph = 2 ∨ x.ph = 3) : (akS x).due = false := by
  unfold akS As.due
  obtain ⟨ph, pr, si, pa⟩ := x
  dsimp only at h ⊢
  rcases h with rfl | rfl | rfl | rfl <;> simp
theorem ps_ph (x : As) (n : Int) : (psS x n).ph = x.ph := by unfold psS; split <;> rfl
theorem ps_so (x : As) (n : Int) : (psS x n).so = x.so := by unfold As.so; rw [ps_ph]
theorem ps_due (x : As) (n : Int) : (psS x n).due = x.due := by unfold As.due; rw [ps_ph]
/-- The same, but not paused. -/
def As.un (x : As) : As := { x with pa := 0 }
theorem wt_un (x : As) : wtS x.un = x.un := by unfold wtS As.un; simp
theorem un_wt (x : As) : (wtS x).un = x.un := by unfold wtS As.un; split <;> rfl
theorem mvS_un (s : Sp) (x : As) (a : Bool) : mvS s x.un a = (mvS s x a).un := by
  unfold mvS As.un
  dsimp only
  repeat' split
  all_goals rfl
theorem mvE_un (s : Sp) (x : As) (a : Bool) : mvE s x.un a = mvE s x a := rfl
theorem mv_pa (s : Sp) (x : As) (a : Bool) : (mvS s x a).pa = x.pa := by
  unfold mvS
  repeat' split
  all_goals rfl
theorem stS_un (s : Sp) (x : As) (a : Bool) : stS s x.un a = (stS s x a).un := by
  unfold stS
  rw [wt_un, ← mvS_un, un_wt]
theorem stE_un (s : Sp) (x : As) (a : Bool) : stE s x a = evs (wtE x) ++ stE s x.un a := by
  unfold stE
  rw [wt_un]
  have e : mvE s (wtS x) a = mvE s x.un a := by rw [← un_wt x]; rfl
  rw [e]
  have : wtE x.un = 0 := rfl
  rw [this]
  rfl
theorem st_pa (s : Sp) (x : As) (a : Bool) : (stS s x a).pa = if x.pa = 0 then 0 else x.pa - 1 := by
  unfold stS
  rw [mv_pa]
  unfold wtS
  split
  · assumption
  · rfl
theorem akS_un (x : As) : akS x.un = (akS x).un := by
  unfold akS As.un
  dsimp only
  repeat' split
  all_goals rfl
theorem ak_pa (x : As) : (akS x).pa = x.pa := by
  unfold akS
  repeat' split
  all_goals rfl
theorem un_stands {s : Sp} {x : As} (h : s.Stands x) : s.Stands x.un := ⟨Int.le_refl _, by show (0 : Int) ≤ 6000; decide, h.2.2⟩
/-- How grave it is behind i + 1 steps. -/
def gP (P e i : Nat) : Nat := if e = 0 then P else min (P + i / e) 3
def gV (P e i : Nat) : Bool := decide (e ≠ 0 ∧ i ≠ 0 ∧ i % e = 0 ∧ P + i / e ≤ 3)
structure Grown (P e i : Nat) (x : As) : Prop where
  ph : x.ph = 1
  pa : x.pa = 0
  pr : x.pr = (gP P e i : Nat)
  si : e ≠ 0 → gP P e i < 3 → x.si = (i % e : Nat)
theorem grown_first (P e : Nat) (la : Bool) (hP : P ≤ 3) : Grown P e 0 (stS ⟨P, la, e⟩ As.zero true) ∧ stE ⟨P, la, e⟩ As.zero true = [1] := by
  have e1 : stS ⟨P, la, e⟩ As.zero true = ⟨1, P, 0, 0⟩ := rfl
  refine ⟨?_, rfl⟩
  rw [e1]
  refine ⟨rfl, rfl, ?_, fun h1 h2 => by simp⟩
  show (P : Int) = (gP P e 0 : Nat)
  unfold gP
  rw [Nat.zero_div]
  split <;> omega
theorem div_next (i e : Nat) (he : 0 < e) : (i % e + 1 < e ∧ (i + 1) % e = i % e + 1 ∧ (i + 1) / e = i / e) ∨ (i % e + 1 = e ∧ (i + 1) % e = 0 ∧ (i + 1) / e = i / e + 1) := by
  have h1 := Nat.div_add_mod i e
  have h2 := Nat.mod_lt i he
  by_cases h : i % e + 1 < e
  · left
    have : i + 1 = e * (i / e) + (i % e + 1) := by omega
    refine ⟨h, ?_, ?_⟩
    · rw [this, Nat.mul_add_mod, Nat.mod_eq_of_lt h]
    · rw [this, Nat.mul_add_div he, Nat.div_eq_of_lt h, Nat.add_zero]
  · right
    have h3 : i % e + 1 = e := by omega
    have : i + 1 = e * (i / e + 1) := by rw [Nat.mul_add]; omega
    refine ⟨h3, ?_, ?_⟩
    · rw [this]; exact Nat.mul_mod_right e _
    · rw [this, Nat.mul_div_cancel_left _ he]
theorem grown_next {P e i : Nat} {la : Bool} {x : As} (h : Grown P e i x) : Grown P e (i + 1) (stS ⟨P, la, e⟩ x true) ∧ stE ⟨P, la, e⟩ x true = if gV P e (i + 1) = true then [3] else [] := by
  obtain ⟨ph, pr, si, pa⟩ := x
  obtain ⟨h1, h2, h3, h4⟩ := h
  dsimp only at h1 h2 h3 h4
  subst h1 h2
  have w1 : wtS ⟨1, pr, si, 0⟩ = ⟨1, pr, si, 0⟩ := rfl
  have w2 : wtE ⟨1, pr, si, 0⟩ = 0 := rfl
  unfold stS stE
  rw [w1, w2]
  unfold mvS mvE Sp.Grows
  dsimp only
  rw [if_pos (rfl : true = true), if_neg (show ¬ ((1 : Int) = 0 ∨ (1 : Int) = 3) by decide), if_pos (rfl : (1 : Int) = 1), if_pos (rfl : true = true), if_neg (show ¬ ((1 : Int) = 0 ∨ (1 : Int) = 3) by decide), if_pos (rfl : (1 : Int) = 1)]
  have ev0 : evs 0 = [] := rfl
  rw [ev0, List.nil_append]
  by_cases he : e = 0
  · subst he
    rw [if_neg (by omega), if_neg (by omega)]
    have g0 : ∀ j, gP P 0 j = P := fun j => rfl
    refine ⟨⟨rfl, rfl, ?_, fun h => absurd rfl h⟩, ?_⟩
    · dsimp only; rw [h3, g0, g0]
    · have : gV P 0 (i + 1) = false := by unfold gV; simp
      rw [this]; rfl
  · have gq : ∀ j, gP P e j = min (P + j / e) 3 := fun j => if_neg he
    rcases div_next i e (by omega) with ⟨d1, d2, d3⟩ | ⟨d1, d2, d3⟩
    · have gv : gV P e (i + 1) = false := by unfold gV; rw [d2]; simp
      rw [gv]
      have gn : gP P e (i + 1) = gP P e i := by rw [gq, gq, d3]
      by_cases hg : gP P e i < 3
      · have hs := h4 he hg
        rw [if_pos (by omega), if_pos (by omega), if_pos (by omega), if_pos (by omega)]
        exact ⟨⟨rfl, rfl, by dsimp only; rw [h3, gn], fun _ _ => by dsimp only; rw [hs, d2]; omega⟩, rfl⟩
      · rw [if_neg (by omega), if_neg (by omega)]
        exact ⟨⟨rfl, rfl, by dsimp only; rw [h3, gn], fun _ h => by rw [gn] at h; omega⟩, rfl⟩
    · by_cases hg : gP P e i < 3
      · have hs := h4 he hg
        have gp : gP P e i = P + i / e := by rw [gq] at hg ⊢; omega
        have gn : gP P e (i + 1) = gP P e i + 1 := by rw [gq, gp, d3]; omega
        have gv : gV P e (i + 1) = true := by unfold gV; rw [decide_eq_true_iff, d2, d3]; omega
        rw [gv]
        rw [if_pos (by omega), if_neg (by omega), if_pos (by omega), if_neg (by omega)]
        exact ⟨⟨rfl, rfl, by dsimp only; rw [h3, gn]; omega, fun _ _ => by dsimp only; rw [d2]; rfl⟩, rfl⟩
      · have gn : gP P e (i + 1) = gP P e i := by rw [gq] at hg ⊢; rw [gq, d3]; omega
        have gv : gV P e (i + 1) = false := by unfold gV; rw [decide_eq_false_iff_not, d3]; rw [gq] at hg; omega
        rw [gv]
        rw [if_neg (by omega), if_neg (by omega)]
        exact ⟨⟨rfl, rfl, by dsimp only; rw [h3, gn], fun _ h => by rw [gn] at h; omega⟩, rfl⟩
end Go.Proofs.Ythggkpmhcdmalaa
