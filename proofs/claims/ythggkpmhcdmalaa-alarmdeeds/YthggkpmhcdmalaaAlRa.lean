/-
  The document's alarm: which specs may be, what grows; an alarm of the document in memory.
-/
import Derived.Test.YthggkpmhcdmalaaAlC
namespace Go.Proofs.Ythggkpmhcdmalaa
open Go.RowKit
set_option maxRecDepth 8000
theorem refMay_any (w : World) (s : Sp) : Calls Try.prog 26 #[s.v] w fun e w' => e = .returned (.bool (decide s.May)) ∧ After w w' := by
  have H := sp_ways s
  unfold Sp.v
  generalize decide s.May = M at *
  generalize s.pr = P at *
  generalize s.es = E at *
  generalize s.la = L at *
  rcases H with ⟨hm, h1, h2, h3, h4⟩ | ⟨hm, h1⟩ | ⟨hm, h1, h2⟩ | ⟨hm, h1, h2, h3⟩ | ⟨hm, h1, h2, h3, h4⟩
  all_goals
    subst hm
    go_enter Try.func26, Try.ntmps26
    go_wp2
    go_ret
    exact ⟨rfl, After.rfl.alloc _⟩
theorem refGrows_any (w : World) (s : Sp) (p : Int) : Calls Try.prog 38 #[s.v, .int .i64 p] w fun e w' => e = .returned (.bool (decide (s.Grows p))) ∧ After w w' := by
  have H : (decide (s.Grows p) = true ∧ 0 < s.es ∧ p < 3) ∨ (decide (s.Grows p) = false ∧ ¬ 0 < s.es) ∨ (decide (s.Grows p) = false ∧ 0 < s.es ∧ ¬ p < 3) := by simp only [decide_eq_true_eq, decide_eq_false_iff_not]; unfold Sp.Grows; omega
  unfold Sp.v
  generalize decide (s.Grows p) = M at *
  generalize s.pr = P at *
  generalize s.es = E at *
  generalize s.la = L at *
  rcases H with ⟨hm, h1, h2⟩ | ⟨hm, h1⟩ | ⟨hm, h1, h2⟩
  all_goals
    subst hm
    go_enter Try.func38, Try.ntmps38
    go_wp2
    go_ret
    exact ⟨rfl, After.rfl.alloc _⟩
/-- The document's alarm at p: its spec, how it stands. -/
structure Rl (w : World) (p : Nat) (s : Sp) (x : As) : Prop where
  at0 : w.heap[p]? = some (.cells (alC s x) 64 (0, 0))
  may : s.May
  st : s.Stands x
theorem Rl.lt {w : World} {p : Nat} {s : Sp} {x : As} (h : Rl w p s x) : p < w.heap.size := blk_lt h.at0
theorem Rl.but {S : Nat → Prop} {w w' : World} {p : Nat} {s : Sp} {x : As} (h : Rl w p s x) (b : But S w w') (hp : ¬ S p) : Rl w' p s x :=
  { h with at0 := (b.block p (blk_lt h.at0) hp).trans h.at0 }
theorem Rl.after {w w' : World} {p : Nat} {s : Sp} {x : As} (h : Rl w p s x) (a : After w w') : Rl w' p s x := h.but a (fun t => t)
end Go.Proofs.Ythggkpmhcdmalaa
