/-
  Two tasks side by side: the program's and the document's; a step of the one, then of the other; within a region whose order is drawn.
-/
import Derived.Test.YtgapnimicaopcaaGreatB03
import Derived.Test.YtgapnimicaopcaaGreatB05
import Derived.Test.YtgapnimicaopcaaGreatB04
namespace Go.Proofs.YtgapnimicaopcaaGreat
open Go.RowKit
set_option maxRecDepth 8000
/-- Both are none, or both stand alike. -/
def Pr (va vb : Value) (S : Nat → Prop) (W : World) : Prop := (va = .pointer none ∧ vb = .pointer none ∧ ∀ i, ¬ S i) ∨ ∃ p g Sa Sb c s, va = Ptr p ∧ vb = Ptr g ∧ Tk W p Sa c s ∧ Rk W g Sb c s ∧ (∀ i, S i ↔ Sa i ∨ Sb i) ∧ (∀ i, Sa i → ¬ Sb i) ∧ (s.ins.l.length : Int) ≤ 64 * s.next
/-- The one has gone a step further. -/
def Pq (va vb : Value) (t : Int) (l : List Rl) (R : Rd) (E : Int) (S : Nat → Prop) (W : World) : Prop := (va = .pointer none ∧ vb = .pointer none ∧ R = ⟨0, 0⟩ ∧ E = 1 ∧ ∀ i, ¬ S i) ∨ ∃ p g Sa Sb c s, va = Ptr p ∧ vb = Ptr g ∧ Tk W p Sa c (s.go c t l) ∧ Rk W g Sb c s ∧ (∀ i, S i ↔ Sa i ∨ Sb i) ∧ (∀ i, Sa i → ¬ Sb i) ∧ (s.ins.l.length : Int) ≤ 64 * s.next ∧ s.next ≤ 2147483648 ∧ R = s.out c t l ∧ E = s.err t l
theorem Pr.but {va vb : Value} {S T : Nat → Prop} {W W' : World} (h : Pr va vb S W) (b : But T W W') (hn : ∀ i, S i → ¬ T i) : Pr va vb S W' := by
  rcases h with h | ⟨p, g, Sa, Sb, c, s, e1, e2, x, y, hS, r⟩
  · exact .inl h
  · exact .inr ⟨p, g, Sa, Sb, c, s, e1, e2, x.but b (fun i hi => hn i ((hS i).2 (.inl hi))), y.but b (fun i hi => hn i ((hS i).2 (.inr hi))), hS, r⟩
theorem Pr.after {va vb : Value} {S : Nat → Prop} {W W' : World} (h : Pr va vb S W) (a : After W W') : Pr va vb S W' := h.but a (fun _ _ t => t)
theorem Pr.lt {va vb : Value} {S : Nat → Prop} {W : World} (h : Pr va vb S W) : ∀ i, S i → i < W.heap.size := by
  rcases h with h | ⟨p, g, Sa, Sb, c, s, e1, e2, x, y, hS, r⟩
  · exact fun i hi => absurd hi (h.2.2 i)
  · exact fun i hi => ((hS i).1 hi).elim (x.lt i) (y.lt i)
theorem Pq.but {va vb : Value} {t : Int} {l : List Rl} {R : Rd} {E : Int} {S T : Nat → Prop} {W W' : World} (h : Pq va vb t l R E S W) (b : But T W W') (hn : ∀ i, S i → ¬ T i) : Pq va vb t l R E S W' := by
  rcases h with h | ⟨p, g, Sa, Sb, c, s, e1, e2, x, y, hS, r⟩
  · exact .inl h
  · exact .inr ⟨p, g, Sa, Sb, c, s, e1, e2, x.but b (fun i hi => hn i ((hS i).2 (.inl hi))), y.but b (fun i hi => hn i ((hS i).2 (.inr hi))), hS, r⟩
theorem Pq.after {va vb : Value} {t : Int} {l : List Rl} {R : Rd} {E : Int} {S : Nat → Prop} {W W' : World} (h : Pq va vb t l R E S W) (a : After W W') : Pq va vb t l R E S W' := h.but a (fun _ _ t => t)
theorem Pq.lt {va vb : Value} {t : Int} {l : List Rl} {R : Rd} {E : Int} {S : Nat → Prop} {W : World} (h : Pq va vb t l R E S W) : ∀ i, S i → i < W.heap.size := by
  rcases h with h | ⟨p, g, Sa, Sb, c, s, e1, e2, x, y, hS, r⟩
  · exact fun i hi => absurd hi (h.2.2.2.2 i)
  · exact fun i hi => ((hS i).1 hi).elim (x.lt i) (y.lt i)
theorem Tk.hi {w : World} {p : Nat} {S : Nat → Prop} {c : Cf} {s : Ts} (x : Tk w p S c s) : s.next ≤ 2147483648 := by
  obtain ⟨q, v, S1, x, _⟩ := x
  exact x.hi
theorem Pr.stepA {va vb : Value} {S : Nat → Prop} {W : World} (h : Pr va vb S W) (t : Int) (a : Option Addr) (n d : Nat) (l : List Rl) (hr : RRow W a n l) (hna : ∀ y, a = some y → 0 < n → ¬ S y.block) : Calls Tryz.prog 9 #[va, .int .i64 t, .slice a n d] W fun e W' => ∃ R E S', e = .returned (.tuple #[.agg #[.int .i64 R.s, .int .i64 R.v], .int .i64 E]) ∧ Pq va vb t l R E S' W' ∧ (∀ i, S' i → S i ∨ W.heap.size ≤ i) ∧ But S W W' := by
  rcases h with ⟨rfl, rfl, h0⟩ | ⟨p, g, Sa, Sb, c, s, rfl, rfl, x, y, hS, hd, hl⟩
  · refine (stepT_none (.inl rfl) t a n d).mono ?_
    rintro e W' ⟨rfl, a1⟩
    exact ⟨⟨0, 0⟩, 1, S, rfl, .inl ⟨rfl, rfl, rfl, rfl, h0⟩, fun i hi => .inl hi, a1.but⟩
  · refine (step_any x t a n d l hr (fun z hz h0 h1 => hna z hz h0 ((hS _).2 (.inl h1)))).mono ?_
    rintro e W' ⟨rfl, Sa', x', h1, h2⟩
    refine ⟨_, _, fun i => Sa' i ∨ Sb i, rfl, .inr ⟨p, g, Sa', Sb, c, s, rfl, rfl, x', y.but h2 (fun i hi h3 => hd i h3 hi), fun i => Iff.rfl, fun i hi hb => ?_, hl, x.hi, rfl, rfl⟩, fun i hi => ?_, h2.mono (fun i _ h => (hS i).2 (.inl h))⟩
    · rcases h1 i hi with h3 | h3
      · exact hd i h3 hb
      · have := y.lt i hb; omega
    · rcases hi with hi | hi
      · exact (h1 i hi).imp (fun h => (hS i).2 (.inl h)) id
      · exact .inl ((hS i).2 (.inr hi))
theorem go_len (c : Cf) (t : Int) (s : Ts) (l : List Rl) (h : (s.ins.l.length : Int) ≤ 64 * s.next) : ((s.go c t l).ins.l.length : Int) ≤ 64 * (s.go c t l).next := by
  unfold Ts.go
  by_cases he : s.err t l = 0
  · rw [if_pos he, Ts.step_next]
    have h1 := step_len c t s l
    rcases s.err_cases t l with h2 | h2 | h2 | h2
    · omega
    all_goals (rw [he] at h2; cases h2)
  · rw [if_neg he]; exact h
theorem Pq.stepB {va vb : Value} {t : Int} {l : List Rl} {R : Rd} {E : Int} {S : Nat → Prop} {W : World} (h : Pq va vb t l R E S W) (a : Option Addr) (n d : Nat) (hr : RRow W a n l) (hna : ∀ y, a = some y → 0 < n → ¬ S y.block) : Calls Tryz.prog 10 #[vb, .int .i64 t, .slice a n d] W fun e W' => e = .returned (.tuple #[.agg #[.int .i64 R.s, .int .i64 R.v], .int .i64 E]) ∧ ∃ S', Pr va vb S' W' ∧ (∀ i, S' i → S i ∨ W.heap.size ≤ i) ∧ But S W W' := by
  rcases h with ⟨rfl, rfl, rfl, rfl, h0⟩ | ⟨p, g, Sa, Sb, c, s, rfl, rfl, x, y, hS, hd, hl, hh, rfl, rfl⟩
  · refine (rkStep_nil W t a n d).mono ?_
    rintro e W' ⟨rfl, a1⟩
    exact ⟨rfl, S, .inl ⟨rfl, rfl, h0⟩, fun i hi => .inl hi, a1.but⟩
  · refine (rkStep y (by omega) t a n d l hr (fun z hz h0 h1 => hna z hz h0 ((hS _).2 (.inr h1)))).mono ?_
    rintro e W' ⟨rfl, Sb', y', h1, h2⟩
    refine ⟨rfl, fun i => Sa i ∨ Sb' i, .inr ⟨p, g, Sa, Sb', c, s.go c t l, rfl, rfl, x.but h2 (fun i hi h3 => hd i hi h3), y', fun i => Iff.rfl, fun i hi hb => ?_, go_len c t s l hl⟩, fun i hi => ?_, h2.mono (fun i _ h => (hS i).2 (.inr h))⟩
    · rcases h1 i hb with h3 | h3
      · exact hd i hi h3
      · have := x.lt i hi; omega
    · rcases hi with hi | hi
      · exact .inl ((hS i).2 (.inl hi))
      · exact (h1 i hi).imp (fun h => (hS i).2 (.inr h)) id
/-- What holds between the operations of 'y, k := b.Step(tick, list)': the step is i2, the new block for the reading is i3, the store into it i4. -/
structure StG (i2 i3 i4 : Nat) (w0 : World) (S : Nat → Prop) (P0 : World → Prop) (P1 : (Nat → Prop) → World → Prop) (R : Rd) (L : Nat → Bool) (u : Nat → Value) (w : World) : Prop where
  ord2 : L i4 = true → L i3 = true ∧ L i2 = true
  bw : But (fun i => S i ∨ w0.heap.size ≤ i) w0 w
  p0 : L i2 = false → P0 w ∧ After w0 w
  p1 : L i2 = true → ∃ S', P1 S' w ∧ (∀ i, S' i → S i ∨ w0.heap.size ≤ i) ∧ (∀ i, S' i → i < w.heap.size) ∧ ∀ g, L i3 = true → u i3 = Ptr g → ¬ S' g
  al : L i3 = true → ∃ g, u i3 = Ptr g ∧ w0.heap.size ≤ g ∧ w.heap[g]? = some (.cells (if L i4 then #[.int .i64 R.s, .int .i64 R.v] else #[.int .i64 0, .int .i64 0]) 38 (0, 0))
section
variable {i2 i3 i4 : Nat} {w0 : World} {S : Nat → Prop} {P0 : World → Prop} {P1 : (Nat → Prop) → World → Prop} {R : Rd} {T : Tab}
theorem StG.keep {k : Nat} {v : Value} (h2 : i2 ≠ k) (h3 : i3 ≠ k) (h4 : i4 ≠ k) (d3 : T.D i3 ≠ T.D k) (L : Nat → Bool) (u : Nat → Value) (w : World) (x : StG i2 i3 i4 w0 S P0 P1 R L u w) : StG i2 i3 i4 w0 S P0 P1 R (more L k) (T.set k v u) w := by
  have e3 : T.set k v u i3 = u i3 := if_neg d3
  refine ⟨?_, x.bw, ?_, ?_, ?_⟩
  · rw [more_ne L h4, more_ne L h3, more_ne L h2]; exact x.ord2
  · rw [more_ne L h2]; exact x.p0
  · rw [more_ne L h2, more_ne L h3, e3]; exact x.p1
  · rw [more_ne L h3, more_ne L h4, e3]; exact x.al
theorem StG.called {L : Nat → Bool} {u : Nat → Value} {w w' : World} {v : Value} (x : StG i2 i3 i4 w0 S P0 P1 R L u w) (hS : ∀ i, S i → i < w0.heap.size) (hl : L i2 = false) (h3 : i3 ≠ i2) (h4 : i4 ≠ i2) (d3 : T.D i3 ≠ T.D i2) (h : ∃ S', P1 S' w' ∧ (∀ i, S' i → S i ∨ w.heap.size ≤ i) ∧ (∀ i, S' i → i < w'.heap.size) ∧ But S w w') : StG i2 i3 i4 w0 S P0 P1 R (more L i2) (T.set i2 v u) w' := by
  obtain ⟨S', p, hS', hlt, b⟩ := h
  have e3 : T.set i2 v u i3 = u i3 := if_neg d3
  have aw := (x.p0 hl).2
  refine ⟨?_, x.bw.then b (fun _ _ t => .inl t), ?_, ?_, ?_⟩
  · rw [more_ne L h4, more_ne L h3]; intro h; exact ⟨(x.ord2 h).1, more_self L i2⟩
  · rw [more_self]; intro h; cases h
  · intro _
    refine ⟨S', p, fun i hi => (hS' i hi).imp id (fun h => Nat.le_trans aw.size h), hlt, ?_⟩
    rw [more_ne L h3, e3]
    intro g q1 q2 q3
    obtain ⟨g', k1, k2, k3⟩ := x.al q1
    rw [k1] at q2
    have e : g' = g := by simpa [Ptr] using q2
    subst e
    have hg := blk_lt k3
    rcases hS' _ q3 with t | t
    · have := hS _ t; omega
    · omega
  · rw [more_ne L h3, more_ne L h4, e3]
    intro h
    obtain ⟨g, k1, k2, k3⟩ := x.al h
    exact ⟨g, k1, k2, (b.block g (blk_lt k3) (fun t => by have := hS g t; omega)).trans k3⟩
theorem StG.alloc {L : Nat → Bool} {u : Nat → Value} {w : World} (hP0 : ∀ w w', After w w' → P0 w → P0 w') (hP1 : ∀ S' w w', After w w' → P1 S' w → P1 S' w') (hl : L i3 = false) (x : StG i2 i3 i4 w0 S P0 P1 R L u w) (h2 : i2 ≠ i3) (h4 : i4 ≠ i3) : StG i2 i3 i4 w0 S P0 P1 R (more L i3) (T.set i3 (.pointer (some ⟨w.heap.size, 0, none⟩)) u) (w.alloc (.cells #[.int .i64 0, .int .i64 0] 38)) := by
  have hl4 : L i4 = false := by
    rcases h : L i4 with _ | _
    · rfl
    · rw [(x.ord2 h).1] at hl; cases hl
  have e3 : T.set i3 (.pointer (some ⟨w.heap.size, 0, none⟩)) u i3 = .pointer (some ⟨w.heap.size, 0, none⟩) := if_pos rfl
  have a : After w (w.alloc (.cells #[.int .i64 0, .int .i64 0] 38)) := After.rfl.alloc _
  refine ⟨?_, x.bw.then a (fun _ _ t => t.elim), ?_, ?_, ?_⟩
  · rw [more_ne L h4, hl4]; intro h; cases h
  · rw [more_ne L h2]; intro h; exact ⟨hP0 _ _ a (x.p0 h).1, (x.p0 h).2.trans a⟩
  · rw [more_ne L h2]; intro h
    obtain ⟨S', t, k1, k2, k3⟩ := x.p1 h
    refine ⟨S', hP1 _ _ _ a t, k1, fun i hi => Nat.lt_of_lt_of_le (k2 i hi) a.size, fun g _ q2 q3 => ?_⟩
    rw [e3] at q2
    have e : w.heap.size = g := by simpa [Ptr] using q2
    subst e
    exact absurd (k2 _ q3) (Nat.lt_irrefl _)
  · intro _
    rw [more_ne L h4, hl4, e3]
    exact ⟨w.heap.size, rfl, x.bw.size, heap_alloc_new w _⟩
theorem StG.store {L : Nat → Bool} {u : Nat → Value} {w : World} (hP1 : ∀ S' g w w', But (One g) w w' → ¬ S' g → P1 S' w → P1 S' w') (x : StG i2 i3 i4 w0 S P0 P1 R L u w) (hl : L i4 = false) (hl2 : L i2 = true) (hl3 : L i3 = true) (h2 : i2 ≠ i4) (h3 : i3 ≠ i4) : ∃ g, u i3 = Ptr g ∧ w.heap[g]? = some (.cells #[.int .i64 0, .int .i64 0] 38 (0, 0)) ∧ StG i2 i3 i4 w0 S P0 P1 R (more L i4) u ((w.setCell ⟨g, 0, none⟩ (.int .i64 R.s)).setCell ⟨g, 1, none⟩ (.int .i64 R.v)) := by
  obtain ⟨g, k1, k2, k3⟩ := x.al hl3
  rw [hl] at k3
  have b : But (One g) w ((w.setCell ⟨g, 0, none⟩ (.int .i64 R.s)).setCell ⟨g, 1, none⟩ (.int .i64 R.v)) := (but_one w g 0 _).trans (but_one _ g 1 _)
  refine ⟨g, k1, k3, ?_, ?_, ?_, ?_, ?_⟩
  · intro _; rw [more_ne L h3, more_ne L h2]; exact ⟨hl3, hl2⟩
  · exact x.bw.then b (fun i _ e => by cases e; exact .inr k2)
  · rw [more_ne L h2, hl2]; intro h; cases h
  · intro _
    obtain ⟨S', t, q1, q2, q3⟩ := x.p1 hl2
    refine ⟨S', hP1 _ _ _ _ b (q3 g hl3 k1) t, q1, fun i hi => Nat.lt_of_lt_of_le (q2 i hi) b.size, ?_⟩
    rw [more_ne L h3]
    exact q3
  · intro _
    rw [more_self]
    exact ⟨g, k1, k2, two_set1 (two_set0 k3 _) _⟩
theorem StG.first (p : P0 w0) (hP0 : ∀ w w', After w w' → P0 w → P0 w') {u : Nat → Value} : StG i2 i3 i4 w0 S P0 P1 R (fun _ => false) u w0.drew :=
  ⟨(fun h => by cases h), (After.rfl.draws 1).but, fun _ => ⟨hP0 _ _ (After.rfl.draws 1) p, After.rfl.draws 1⟩, (fun h => by cases h), (fun h => by cases h)⟩
end
end Go.Proofs.YtgapnimicaopcaaGreat
