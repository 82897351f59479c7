/-
  One condition's alarm over plain data alone: which specs and states may be, a step, an acknowledgement, a pause.
-/
import Derived.Test.YthggkpmhcdmalaaBase
namespace Go.Proofs.Ythggkpmhcdmalaa
/-- How an alarm behaves: its priority, whether it latches, steps till it is graver. -/
structure Sp where
  pr : Int
  la : Bool
  es : Int
/-- How it stands: phase, priority, since, pause. -/
structure As where
  ph : Int
  pr : Int
  si : Int
  pa : Int
def As.zero : As := ⟨0, 0, 0, 0⟩
abbrev Sp.May (s : Sp) : Prop := 1 ≤ s.pr ∧ s.pr ≤ 3 ∧ 0 ≤ s.es ∧ s.es ≤ 10000
abbrev Sp.Grows (s : Sp) (p : Int) : Prop := 0 < s.es ∧ p < 3
/-- Which priorities may be, but in quiet. -/
abbrev Sp.Counts (s : Sp) (p : Int) : Prop := (s.es = 0 ∧ p = s.pr) ∨ (s.es ≠ 0 ∧ s.pr ≤ p ∧ p ≤ 3)
abbrev Sp.Lasts (s : Sp) (x : As) : Prop := x.si = 0 ∨ (0 < x.si ∧ x.si < s.es ∧ s.Grows x.pr)
abbrev Sp.Stands (s : Sp) (x : As) : Prop := 0 ≤ x.pa ∧ x.pa ≤ 6000 ∧ ((x.ph = 0 ∧ x.pr = 0 ∧ x.si = 0) ∨ (x.ph = 1 ∧ s.Counts x.pr ∧ s.Lasts x) ∨ (x.ph = 2 ∧ s.Counts x.pr ∧ x.si = 0) ∨ (x.ph = 3 ∧ s.la = true ∧ s.Counts x.pr ∧ x.si = 0))
theorem Sp.Stands.zero (s : Sp) : s.Stands As.zero := ⟨Int.le_refl _, by decide, .inl ⟨rfl, rfl, rfl⟩⟩
/-- A step of a pause. -/
def wtS (x : As) : As := if x.pa = 0 then x else { x with pa := x.pa - 1 }
def wtE (x : As) : Int := if x.pa = 1 then 4 else 0
/-- What a step does by phase and condition. -/
def mvS (s : Sp) (x : As) (a : Bool) : As :=
  if a = true then
    if x.ph = 0 ∨ x.ph = 3 then { x with ph := 1, pr := s.pr, si := 0 }
    else if x.ph = 1 then (if s.Grows x.pr then (if x.si + 1 < s.es then { x with si := x.si + 1 } else { x with pr := x.pr + 1, si := 0 }) else x)
    else x
  else if x.ph = 1 then (if s.la = true then { x with ph := 3, si := 0 } else { x with ph := 0, pr := 0, si := 0 })
  else if x.ph = 2 then { x with ph := 0, pr := 0, si := 0 } else x
def mvE (s : Sp) (x : As) (a : Bool) : Int :=
  if a = true then
    if x.ph = 0 ∨ x.ph = 3 then 1
    else if x.ph = 1 then (if s.Grows x.pr then (if x.si + 1 < s.es then 0 else 3) else 0)
    else 0
  else if x.ph = 1 then 2
  else if x.ph = 2 then 2 else 0
/-- Events: what is none is left out. -/
def evs (a : Int) : List Int := if a = 0 then [] else [a]
def stS (s : Sp) (x : As) (a : Bool) : As := mvS s (wtS x) a
def stE (s : Sp) (x : As) (a : Bool) : List Int := evs (wtE x) ++ evs (mvE s (wtS x) a)
def akS (x : As) : As := if x.ph = 1 then { x with ph := 2, si := 0 } else if x.ph = 3 then { x with ph := 0, pr := 0, si := 0 } else x
def akE (x : As) : Int := if x.ph = 1 then 0 else if x.ph = 3 then 0 else 70
def psS (x : As) (n : Int) : As := if 1 ≤ n ∧ n ≤ 6000 then { x with pa := n } else x
def psE (n : Int) : Int := if 1 ≤ n ∧ n ≤ 6000 then 0 else 9
theorem wt_stands {s : Sp} {x : As} (h : s.Stands x) : s.Stands (wtS x) := by
  obtain ⟨h1, h2, h3⟩ := h
  unfold wtS
  by_cases h0 : x.pa = 0
  · rw [if_pos h0]; exact ⟨h1, h2, h3⟩
  · rw [if_neg h0]
    refine ⟨?_, ?_, h3⟩ <;> dsimp only <;> omega
theorem mv_stands {s : Sp} (hs : s.May) {x : As} (h : s.Stands x) (a : Bool) : s.Stands (mvS s x a) := by
  obtain ⟨m1, m2, m3, m4⟩ := hs
  obtain ⟨h1, h2, h3⟩ := h
  have hc : s.Counts s.pr := by unfold Sp.Counts; omega
  unfold mvS
  cases a
  · rw [if_neg (by decide)]
    by_cases e1 : x.ph = 1
    · rw [if_pos e1]
      cases hl : s.la
      · rw [if_neg (by decide)]
        exact ⟨h1, h2, .inl ⟨rfl, rfl, rfl⟩⟩
      · rw [if_pos rfl]
        have c : s.Counts x.pr := by rcases h3 with h | h | h | h <;> first | exact h.2.1 | omega
        exact ⟨h1, h2, .inr (.inr (.inr ⟨rfl, hl, c, rfl⟩))⟩
    · rw [if_neg e1]
      by_cases e2 : x.ph = 2
      · rw [if_pos e2]
        exact ⟨h1, h2, .inl ⟨rfl, rfl, rfl⟩⟩
      · rw [if_neg e2]
        exact ⟨h1, h2, h3⟩
  · rw [if_pos rfl]
    by_cases e0 : x.ph = 0 ∨ x.ph = 3
    · rw [if_pos e0]
      exact ⟨h1, h2, .inr (.inl ⟨rfl, hc, .inl rfl⟩)⟩
    · rw [if_neg e0]
      by_cases e1 : x.ph = 1
      · rw [if_pos e1]
        have c : s.Counts x.pr ∧ s.Lasts x := by
          rcases h3 with h | h | h | h
          · omega
          · exact h.2
          · omega
          · omega
        by_cases g : s.Grows x.pr
        · rw [if_pos g]
          by_cases l : x.si + 1 < s.es
          · rw [if_pos l]
            refine ⟨h1, h2, .inr (.inl ⟨e1, c.1, .inr ⟨?_, l, g⟩⟩)⟩
            have := c.2
            unfold Sp.Lasts at this
            dsimp only
            omega
          · rw [if_neg l]
            refine ⟨h1, h2, .inr (.inl ⟨e1, ?_, .inl rfl⟩)⟩
            have := c.1
            obtain ⟨g1, g2⟩ := g
            unfold Sp.Counts at this ⊢
            dsimp only
            omega
        · rw [if_neg g]
          exact ⟨h1, h2, h3⟩
      · rw [if_neg e1]
        exact ⟨h1, h2, h3⟩
theorem st_stands {s : Sp} (hs : s.May) {x : As} (h : s.Stands x) (a : Bool) : s.Stands (stS s x a) := mv_stands hs (wt_stands h) a
theorem ak_stands {s : Sp} {x : As} (h : s.Stands x) : s.Stands (akS x) := by
  obtain ⟨h1, h2, h3⟩ := h
  unfold akS
  by_cases e1 : x.ph = 1
  · rw [if_pos e1]
    have c : s.Counts x.pr := by rcases h3 with h | h | h | h <;> first | exact h.2.1 | omega
    exact ⟨h1, h2, .inr (.inr (.inl ⟨rfl, c, rfl⟩))⟩
  · rw [if_neg e1]
    by_cases e3 : x.ph = 3
    · rw [if_pos e3]
      exact ⟨h1, h2, .inl ⟨rfl, rfl, rfl⟩⟩
    · rw [if_neg e3]
      exact ⟨h1, h2, h3⟩
theorem ps_stands {s : Sp} {x : As} (h : s.Stands x) (n : Int) : s.Stands (psS x n) := by
  obtain ⟨h1, h2, h3⟩ := h
  unfold psS
  by_cases e : 1 ≤ n ∧ n ≤ 6000
  · rw [if_pos e]
    exact ⟨by dsimp only; omega, e.2, h3⟩
  · rw [if_neg e]
    exact ⟨h1, h2, h3⟩
theorem Sp.Stands.ph {s : Sp} {x : As} (h : s.Stands x) : x.ph = 0 ∨ x.ph = 1 ∨ x.ph = 2 ∨ x.ph = 3 := by
  obtain ⟨h1, h2, h3⟩ := h
  rcases h3 with h | h | h | h
  · exact .inl h.1
  · exact .inr (.inl h.1)
  · exact .inr (.inr (.inl h.1))
  · exact .inr (.inr (.inr h.1))
end Go.Proofs.Ythggkpmhcdmalaa
