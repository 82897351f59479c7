/-
  What was heard last and when, over plain data alone: which ticks may be, how it stands, what is heard.
-/
import Derived.Test.YtgapnimicaopcaaGreatBase
namespace Go.Proofs.YtgapnimicaopcaaGreat.L13
/-- Whether something was heard, whether it was that the sensor is off, and when. -/
structure Ls where
  any : Bool
  off : Bool
  last : Int
def Ls.new : Ls := ⟨false, false, 0⟩
structure Ls.Ok (s : Ls) : Prop where
  lo : 0 ≤ s.last
  hi : s.last ≤ 2147483647
  none : s.any = false → s.last = 0
theorem Ls.Ok.new : Ls.new.Ok := ⟨Int.le_refl _, by decide, fun _ => rfl⟩
/-- A tick that may be. -/
abbrev Ls.Fits (s : Ls) (t : Int) : Prop := s.last ≤ t ∧ t ≤ 2147483647
def Ls.err (s : Ls) (t : Int) : Int := if s.Fits t then 0 else 9
def Ls.stands (s : Ls) (n : Nat) (t : Int) : Int := if (n : Int) < t - s.last then 3 else if s.any = false then 0 else if s.off = true then 4 else if t = s.last then 1 else 2
def Ls.ans (s : Ls) (n : Nat) (t : Int) : Int := if s.Fits t then s.stands n t else 0
def Ls.hear (s : Ls) (t : Int) (o : Bool) : Ls := if s.Fits t then ⟨true, o, t⟩ else s
theorem Ls.err_yes {s : Ls} {t : Int} (h : s.Fits t) : s.err t = 0 := if_pos h
theorem Ls.err_no {s : Ls} {t : Int} (h : ¬ s.Fits t) : s.err t = 9 := if_neg h
theorem Ls.ans_yes {s : Ls} {t : Int} (h : s.Fits t) (n : Nat) : s.ans n t = s.stands n t := if_pos h
theorem Ls.ans_no {s : Ls} {t : Int} (h : ¬ s.Fits t) (n : Nat) : s.ans n t = 0 := if_neg h
theorem Ls.hear_yes {s : Ls} {t : Int} (h : s.Fits t) (o : Bool) : s.hear t o = ⟨true, o, t⟩ := if_pos h
theorem Ls.hear_no {s : Ls} {t : Int} (h : ¬ s.Fits t) (o : Bool) : s.hear t o = s := if_neg h
theorem Ls.Ok.hear {s : Ls} (h : s.Ok) (t : Int) (o : Bool) : (s.hear t o).Ok := by
  by_cases hf : s.Fits t
  · rw [Ls.hear_yes hf]
    exact ⟨Int.le_trans h.lo hf.1, hf.2, (fun e => by cases e)⟩
  · rw [Ls.hear_no hf]
    exact h
theorem Ls.fits_cases (s : Ls) (t : Int) : s.Fits t ∨ (¬ s.Fits t ∧ t < s.last) ∨ (¬ s.Fits t ∧ ¬ t < s.last ∧ 2147483647 < t) := by
  unfold Ls.Fits
  omega
/-- How it stands, way by way. -/
theorem Ls.stands_cases (s : Ls) (n : Nat) (t : Int) (hf : s.last ≤ t) : ((n : Int) < t - s.last ∧ s.stands n t = 3) ∨ (¬ (n : Int) < t - s.last ∧ s.any = false ∧ s.stands n t = 0) ∨ (¬ (n : Int) < t - s.last ∧ s.any = true ∧ s.off = true ∧ t = s.last ∧ s.stands n t = 4) ∨ (¬ (n : Int) < t - s.last ∧ s.any = true ∧ s.off = true ∧ s.last < t ∧ s.stands n t = 4) ∨ (¬ (n : Int) < t - s.last ∧ s.any = true ∧ s.off = false ∧ t = s.last ∧ s.stands n t = 1) ∨ (¬ (n : Int) < t - s.last ∧ s.any = true ∧ s.off = false ∧ s.last < t ∧ s.stands n t = 2) := by
  obtain ⟨any, off, last⟩ := s
  unfold Ls.stands
  dsimp only at hf ⊢
  by_cases h1 : (n : Int) < t - last
  · exact .inl ⟨h1, if_pos h1⟩
  · rw [if_neg h1]
    cases any
    · exact .inr (.inl ⟨h1, rfl, rfl⟩)
    · cases off
      · by_cases h2 : t = last
        · exact .inr (.inr (.inr (.inr (.inl ⟨h1, rfl, rfl, h2, by simp [h2]⟩))))
        · exact .inr (.inr (.inr (.inr (.inr ⟨h1, rfl, rfl, by omega, by simp [h2]⟩))))
      · by_cases h2 : t = last
        · exact .inr (.inr (.inl ⟨h1, rfl, rfl, h2, by simp⟩))
        · exact .inr (.inr (.inr (.inl ⟨h1, rfl, rfl, by omega, by simp⟩)))
end Go.Proofs.YtgapnimicaopcaaGreat.L13
