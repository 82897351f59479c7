/-
  What a filter does not hear; a reading that has no value is 0.
-/
import Derived.Test.YtgapnimicaopcaaB04
namespace Go.Proofs.Ytgapnimicaopcaa
open Go.RowKit
set_option maxRecDepth 8000
theorem fold_filter {c : Cf} {t : Int} : ∀ (l : List Rl) (s : Ts), (l.filter Rl.rel).foldl (Ts.hear c t) s = l.foldl (Ts.hear c t) s
  | [], _ => rfl
  | r :: l, s => by
    rcases hr : r.rel with _ | _
    · rw [List.filter_cons_of_neg (by simp [hr]), List.foldl_cons, hear_irrel hr]
      exact fold_filter l s
    · rw [List.filter_cons_of_pos hr, List.foldl_cons, List.foldl_cons]
      exact fold_filter l _
theorem step_filter {c : Cf} {t : Int} {s : Ts} (l : List Rl) : s.step c t (l.filter Rl.rel) = s.step c t l ∧ s.read c t (l.filter Rl.rel) = s.read c t l := by
  unfold Ts.read Ts.step Ts.hears
  rw [fold_filter]
  exact ⟨rfl, rfl⟩
def Stp.cut (x : Stp) : Int × List Rl := (x.tick, x.l.filter Rl.rel)
def Stp.tl (x : Stp) : Int × List Rl := (x.tick, x.l)
theorem less_outs {c : Cf} : ∀ (xs ys : List Stp) (s : Ts), ys.map Stp.tl = xs.map Stp.cut → s.outs c ys = s.outs c xs
  | [], [], _, _ => rfl
  | [], _ :: _, _, h => by simp at h
  | _ :: _, [], _, h => by simp at h
  | x :: xs, y :: ys, s, h => by
    rw [List.map_cons, List.map_cons] at h
    injection h with h1 h2
    unfold Stp.tl Stp.cut at h1
    injection h1 with h3 h4
    show s.read c y.tick y.l :: (s.step c y.tick y.l).outs c ys = s.read c x.tick x.l :: (s.step c x.tick x.l).outs c xs
    rw [h3, h4, (step_filter x.l).1, (step_filter x.l).2, less_outs xs ys _ h2]
theorem less_at {xs ys : List Stp} (h : ys.map Stp.tl = xs.map Stp.cut) {i : Nat} {y : Stp} (hy : ys[i]? = some y) : ∃ x, xs[i]? = some x ∧ y.tick = x.tick ∧ y.l = x.l.filter Rl.rel := by
  have e : (ys.map Stp.tl)[i]? = (xs.map Stp.cut)[i]? := by rw [h]
  rw [List.getElem?_map, List.getElem?_map, hy] at e
  rcases hx : xs[i]? with _ | x
  · rw [hx] at e; cases e
  · rw [hx] at e
    simp [Stp.tl, Stp.cut] at e
    exact ⟨x, rfl, e.1, e.2⟩
theorem Fine.less {xs ys : List Stp} (hf : Fine xs) (h : ys.map Stp.tl = xs.map Stp.cut) : Fine ys := by
  refine ⟨fun i y hy => ?_, fun i y hy => ?_, fun i y hy => ?_, fun i y hy => ?_, fun i y z hy hz => ?_⟩
  · obtain ⟨x, hx, e1, _⟩ := less_at h hy
    rw [e1]; exact hf.lo i x hx
  · obtain ⟨x, hx, e1, _⟩ := less_at h hy
    rw [e1]; exact hf.hi i x hx
  · obtain ⟨x, hx, _, e2⟩ := less_at h hy
    rw [e2]
    exact Nat.le_trans (List.length_filter_le _ _) (hf.few i x hx)
  · obtain ⟨x, hx, _, e2⟩ := less_at h hy
    have hm := hf.may i x hx
    rw [e2]
    unfold mays at hm ⊢
    rw [List.all_eq_true] at hm ⊢
    exact fun r hr => hm r (List.mem_filter.1 hr).1
  · obtain ⟨x, hx, e1, _⟩ := less_at h hy
    obtain ⟨x', hx', e1', _⟩ := less_at h hz
    rw [e1, e1']
    exact hf.up i x x' hx hx'
/-- What is known was heard. -/
def Ts.Hd (s : Ts) : Prop := s.known = true → s.lp.any = true
theorem Ts.Hd.hear {c : Cf} {t : Int} {s : Ts} (h : s.Hd) (hl : s.lp.last ≤ t) (ht : t ≤ 2147483647) (r : Rl) : (s.hear c t r).Hd := by
  unfold Ts.hear
  split
  · intro _
    show (s.lp.hear t false).any = true
    rw [L13.Ls.hear_yes ⟨hl, ht⟩]
  · split
    · intro _
      show (s.lp.hear t true).any = true
      rw [L13.Ls.hear_yes ⟨hl, ht⟩]
    · exact h
theorem Ts.Hd.fold {c : Cf} {t : Int} (ht : t ≤ 2147483647) : ∀ (l : List Rl) {s : Ts}, s.Hd → s.lp.last ≤ t → (l.foldl (Ts.hear c t) s).Hd
  | [], _, h, _ => h
  | r :: l, _, h, hl => Ts.Hd.fold ht l (h.hear hl ht r) (hear_last hl)
theorem Ts.Hd.hears {c : Cf} {t : Int} {s : Ts} (h : s.Hd) (hl : s.lp.last ≤ t) (ht : t ≤ 2147483647) (l : List Rl) : (s.hears c t l).Hd := by
  unfold Ts.hears
  refine Ts.Hd.fold ht l ?_ ?_
  · unfold Ts.opn
    split
    · intro e; cases e
    · exact h
  · unfold Ts.opn
    split <;> exact hl
theorem Ts.Hd.step {c : Cf} {t : Int} {s : Ts} (h : s.Hd) (hl : s.lp.last ≤ t) (ht : t ≤ 2147483647) (l : List Rl) : (s.step c t l).Hd := by
  unfold Ts.step Ts.shut
  split
  · intro e; cases e
  · exact h.hears hl ht l
theorem run_hd {c : Cf} {xs : List Stp} (hf : Fine xs) : ∀ j, j ≤ xs.length → (Ts.new.run c (xs.take j)).Hd := by
  intro j
  induction j with
  | zero => intro _ e; cases e
  | succ j ih =>
    intro hj
    have hx : xs[j]? = some xs[j] := List.getElem?_eq_getElem (by omega)
    have h1 := run_last (c := c) hf j (by omega)
    have h2 := hf.next c hx
    rw [Ts.run_succ c _ hx]
    exact (ih (by omega)).step (Int.le_trans h1 h2) (hf.hi j _ hx) _
theorem read_zero {c : Cf} {t : Int} {s : Ts} (h : s.Hd) (hl : s.lp.last ≤ t) (ht : t ≤ 2147483647) (l : List Rl) (h1 : (s.read c t l).s ≠ 1) (h2 : (s.read c t l).s ≠ 2) : (s.read c t l).v = 0 := by
  unfold Ts.read Ts.rd at h1 h2 ⊢
  by_cases hk : (s.step c t l).known = true
  · rw [if_pos hk] at h1 h2
    exfalso
    unfold Ts.step Ts.shut at hk
    split at hk
    · cases hk
    · rename_i hn
      have ha := h.hears hl ht l hk
      have hL : (s.hears c t l).lp.last ≤ t := hears_last hl
      have hx : (s.hears c t l).at_ c t = (s.hears c t l).lp.stands c.st t := L13.Ls.ans_yes ⟨hL, ht⟩ c.st
      rw [hx] at h1 h2 hn
      unfold L13.Ls.stands at h1 h2 hn
      rw [ha] at h1 h2 hn
      split at hn
      · exact hn (.inl rfl)
      · rename_i q1
        rw [if_neg q1] at h1 h2
        simp only [Bool.true_eq_false, if_false] at h1 h2 hn
        split at hn
        · exact hn (.inr rfl)
        · rename_i q2
          rw [if_neg q2] at h1 h2
          split at h1
          · exact h1 rfl
          · rename_i q3
            rw [if_neg q3] at h2
            exact h2 rfl
  · rw [if_neg hk]
    split <;> rfl
theorem outs_zero {c : Cf} {xs : List Stp} (hf : Fine xs) {j : Nat} {R : Rd} (h : (Ts.new.outs c xs)[j]? = some R) (h1 : R.s ≠ 1) (h2 : R.s ≠ 2) : R.v = 0 := by
  have hj : j < xs.length := by
    rcases Nat.lt_or_ge j xs.length with h' | h'
    · exact h'
    · rw [List.getElem?_eq_none (by rw [Ts.outs_length]; exact h')] at h; cases h
  have hx : xs[j]? = some xs[j] := List.getElem?_eq_getElem hj
  rw [Ts.outs_at c _ hx] at h
  injection h with h
  subst h
  exact read_zero (run_hd hf j (by omega)) (Int.le_trans (run_last (c := c) hf j (by omega)) (hf.next c hx)) (hf.hi j _ hx) _ h1 h2
end Go.Proofs.Ytgapnimicaopcaa
