/-
  Package alarm: which specs and states may be; Again and New; what is none.
-/
import Derived.Test.YthggkpmhcdmalaaAlP
import Derived.Test.YthggkpmhcdmalaaBlk
namespace Go.Proofs.Ythggkpmhcdmalaa
open Go.RowKit
set_option maxRecDepth 8000
abbrev Sp.v (s : Sp) : Value := .agg #[.int .i64 s.pr, .bool s.la, .int .i64 s.es]
abbrev As.v (x : As) : Value := .agg #[.int .i64 x.ph, .int .i64 x.pr, .int .i64 x.si, .int .i64 x.pa]
theorem sp_ways (s : Sp) : (decide s.May = true ∧ 1 ≤ s.pr ∧ s.pr ≤ 3 ∧ 0 ≤ s.es ∧ s.es ≤ 10000) ∨ (decide s.May = false ∧ ¬ 1 ≤ s.pr) ∨ (decide s.May = false ∧ 1 ≤ s.pr ∧ ¬ s.pr ≤ 3) ∨ (decide s.May = false ∧ 1 ≤ s.pr ∧ s.pr ≤ 3 ∧ ¬ 0 ≤ s.es) ∨ (decide s.May = false ∧ 1 ≤ s.pr ∧ s.pr ≤ 3 ∧ 0 ≤ s.es ∧ ¬ s.es ≤ 10000) := by
  simp only [decide_eq_true_eq, decide_eq_false_iff_not]
  unfold Sp.May
  omega
theorem mayBe_any (w : World) (s : Sp) : Calls Try.prog 24 #[s.v] w fun e w' => e = .returned (.bool (decide s.May)) ∧ After w w' := by
  have H := sp_ways s
  unfold Sp.v
  generalize decide s.May = M at *
  generalize s.pr = P at *
  generalize s.es = E at *
  generalize s.la = L at *
  rcases H with ⟨hm, h1, h2, h3, h4⟩ | ⟨hm, h1⟩ | ⟨hm, h1, h2⟩ | ⟨hm, h1, h2, h3⟩ | ⟨hm, h1, h2, h3, h4⟩
  all_goals
    subst hm
    go_enter Try.func24, Try.ntmps24
    go_wp2
    go_ret
    exact ⟨rfl, After.rfl.alloc _⟩
theorem grows_any (w : World) (s : Sp) (p : Int) : Calls Try.prog 42 #[s.v, .int .i64 p] w fun e w' => e = .returned (.bool (decide (s.Grows p))) ∧ After w w' := by
  have H : (decide (s.Grows p) = true ∧ 0 < s.es ∧ p < 3) ∨ (decide (s.Grows p) = false ∧ ¬ 0 < s.es) ∨ (decide (s.Grows p) = false ∧ 0 < s.es ∧ ¬ p < 3) := by simp only [decide_eq_true_eq, decide_eq_false_iff_not]; unfold Sp.Grows; omega
  unfold Sp.v
  generalize decide (s.Grows p) = M at *
  generalize s.pr = P at *
  generalize s.es = E at *
  generalize s.la = L at *
  rcases H with ⟨hm, h1, h2⟩ | ⟨hm, h1⟩ | ⟨hm, h1, h2⟩
  all_goals
    subst hm
    go_enter Try.func42, Try.ntmps42
    go_wp2
    go_ret
    exact ⟨rfl, After.rfl.alloc _⟩
theorem counts_any (w : World) (s : Sp) (p : Int) : Calls Try.prog 36 #[s.v, .int .i64 p] w fun e w' => e = .returned (.bool (decide (s.Counts p))) ∧ After w w' := by
  have H : (decide (s.Counts p) = true ∧ s.es = 0 ∧ p = s.pr) ∨ (decide (s.Counts p) = false ∧ s.es = 0 ∧ ¬ p = s.pr) ∨ (decide (s.Counts p) = true ∧ ¬ s.es = 0 ∧ s.pr ≤ p ∧ p ≤ 3) ∨ (decide (s.Counts p) = false ∧ ¬ s.es = 0 ∧ ¬ s.pr ≤ p) ∨ (decide (s.Counts p) = false ∧ ¬ s.es = 0 ∧ s.pr ≤ p ∧ ¬ p ≤ 3) := by simp only [decide_eq_true_eq, decide_eq_false_iff_not]; unfold Sp.Counts; omega
  unfold Sp.v
  generalize decide (s.Counts p) = M at *
  generalize s.pr = P at *
  generalize s.es = E at *
  generalize s.la = L at *
  rcases H with ⟨hm, h1, h2⟩ | ⟨hm, h1, h2⟩ | ⟨hm, h1, h2, h3⟩ | ⟨hm, h1, h2⟩ | ⟨hm, h1, h2, h3⟩
  all_goals
    subst hm
    first | subst h1 | have hb : (E == 0) = false := by simpa using h1
    first | have hc : (p == P) = false := by simpa using h2 | have hc : (p == P) = true := by simpa using h2 | skip
    go_enter Try.func36, Try.ntmps36
    go_wp2
    go_ret
    exact ⟨rfl, After.rfl.alloc _⟩
/-- A box for a spec. -/
abbrev Sp.cs (s : Sp) : Array Value := #[.int .i64 s.pr, .bool s.la, .int .i64 s.es]
abbrev As.cs (x : As) : Array Value := #[.int .i64 x.ph, .int .i64 x.pr, .int .i64 x.si, .int .i64 x.pa]
theorem spec_at {w V : World} {g : Nat} {s : Sp} (h : w.heap[g]? = some (.cells s.cs 23 (0, 0))) (a : After w V) :
    V.cell? ⟨g, 0, none⟩ = some (.int .i64 s.pr) ∧ V.cell? ⟨g, 1, none⟩ = some (.bool s.la) ∧ V.cell? ⟨g, 2, none⟩ = some (.int .i64 s.es) := by
  have h' := (a.block g (blk_lt h) (fun t => t)).trans h
  exact ⟨blk_cell h' rfl, blk_cell h' rfl, blk_cell h' rfl⟩
theorem state_at {w V : World} {g : Nat} {x : As} (h : w.heap[g]? = some (.cells x.cs 25 (0, 0))) (a : After w V) :
    V.cell? ⟨g, 0, none⟩ = some (.int .i64 x.ph) ∧ V.cell? ⟨g, 1, none⟩ = some (.int .i64 x.pr) ∧ V.cell? ⟨g, 2, none⟩ = some (.int .i64 x.si) ∧ V.cell? ⟨g, 3, none⟩ = some (.int .i64 x.pa) := by
  have h' := (a.block g (blk_lt h) (fun t => t)).trans h
  exact ⟨blk_cell h' rfl, blk_cell h' rfl, blk_cell h' rfl, blk_cell h' rfl⟩
/-- Two boxes: a spec and a state. -/
def boxed (w : World) (s : Sp) (x : As) : World := (w.alloc (.cells s.cs 23)).alloc (.cells x.cs 25)
theorem boxed_after (w : World) (s : Sp) (x : As) : After w (boxed w s x) := (After.rfl.alloc _).alloc _
theorem box_two (w : World) (s : Sp) (x : As) (V : World) (h : After (boxed w s x) V) :
    V.cell? ⟨w.heap.size, 0, none⟩ = some (.int .i64 s.pr) ∧ V.cell? ⟨w.heap.size, 1, none⟩ = some (.bool s.la) ∧ V.cell? ⟨w.heap.size, 2, none⟩ = some (.int .i64 s.es) ∧ V.cell? ⟨w.heap.size + 1, 0, none⟩ = some (.int .i64 x.ph) ∧ V.cell? ⟨w.heap.size + 1, 1, none⟩ = some (.int .i64 x.pr) ∧ V.cell? ⟨w.heap.size + 1, 2, none⟩ = some (.int .i64 x.si) ∧ V.cell? ⟨w.heap.size + 1, 3, none⟩ = some (.int .i64 x.pa) := by
  have h0 : (w.alloc (.cells s.cs 23)).heap[w.heap.size]? = some (.cells s.cs 23 (0, 0)) := heap_alloc_new w _
  have h1 : (boxed w s x).heap[(w.alloc (.cells s.cs 23)).heap.size]? = some (.cells x.cs 25 (0, 0)) := heap_alloc_new _ _
  have e : (w.alloc (.cells s.cs 23)).heap.size = w.heap.size + 1 := by simp
  rw [e] at h1
  obtain ⟨a0, a1, a2⟩ := spec_at h0 ((After.rfl.alloc _).trans h)
  obtain ⟨b0, b1, b2, b3⟩ := state_at h1 h
  exact ⟨a0, a1, a2, b0, b1, b2, b3⟩
theorem lasts_any (w : World) (s : Sp) (x : As) : Calls Try.prog 37 #[s.v, x.v] w fun e w' => e = .returned (.bool (decide (s.Lasts x))) ∧ After w w' := by
  have HG := hideIt (fun V => grows_any V s x.pr)
  have H : (decide (s.Lasts x) = true ∧ x.si = 0) ∨ (decide (s.Lasts x) = false ∧ ¬ x.si = 0 ∧ ¬ 0 < x.si) ∨ (decide (s.Lasts x) = false ∧ ¬ x.si = 0 ∧ 0 < x.si ∧ ¬ x.si < s.es) ∨ (decide (s.Lasts x) = decide (s.Grows x.pr) ∧ ¬ x.si = 0 ∧ 0 < x.si ∧ x.si < s.es) := by
    by_cases h1 : x.si = 0
    · exact .inl ⟨decide_eq_true (.inl h1), h1⟩
    · by_cases h2 : 0 < x.si
      · by_cases h3 : x.si < s.es
        · refine .inr (.inr (.inr ⟨?_, h1, h2, h3⟩))
          apply decide_eq_decide.2
          exact ⟨fun h => by rcases h with h | h; exact absurd h h1; exact h.2.2, fun h => .inr ⟨h2, h3, h⟩⟩
        · exact .inr (.inr (.inl ⟨decide_eq_false (fun h => by rcases h with h | h; exact h1 h; exact h3 h.2.1), h1, h2, h3⟩))
      · exact .inr (.inl ⟨decide_eq_false (fun h => by rcases h with h | h; exact h1 h; exact h2 h.1), h1, h2⟩)
  have HB := hideIt (boxed_after w s x)
  unfold boxed Sp.cs As.cs at HB
  unfold Sp.v As.v at *
  generalize hM : decide (s.Grows x.pr) = G at *
  clear hM
  generalize decide (s.Lasts x) = M at *
  generalize s.pr = P at *
  generalize s.es = E at *
  generalize s.la = L at *
  generalize x.ph = p1 at *
  generalize x.pr = p2 at *
  generalize x.si = p3 at *
  generalize x.pa = p4 at *
  rcases H with ⟨hm, rfl⟩ | ⟨hm, h1, h2⟩ | ⟨hm, h1, h2, h3⟩ | ⟨hm, h1, h2, h3⟩
  · subst hm
    clear HG
    go_enter Try.func37, Try.ntmps37
    go_wp2
    go_ret
    exact ⟨rfl, HB.out⟩
  · subst hm
    have hb : (p3 == 0) = false := by simpa using h1
    clear HG
    go_enter Try.func37, Try.ntmps37
    go_wp2
    go_ret
    exact ⟨rfl, HB.out⟩
  · subst hm
    have hb : (p3 == 0) = false := by simpa using h1
    clear HG
    go_enter Try.func37, Try.ntmps37
    go_wp2
    go_ret
    exact ⟨rfl, HB.out⟩
  · subst hm
    have hb : (p3 == 0) = false := by simpa using h1
    go_enter Try.func37, Try.ntmps37
    go_wp2_with fail
    refine (HG.out _).mono ?_
    rintro e w1 ⟨rfl, a1⟩
    go_wp2
    go_ret
    exact ⟨rfl, HB.out.trans a1⟩
end Go.Proofs.Ythggkpmhcdmalaa
