/-
  What a plain filter reads; which others are plain ones.
-/
import Derived.Test.YtgapnimicaopcaaB04
namespace Go.Proofs.Ytgapnimicaopcaa
open Go.RowKit
set_option maxRecDepth 8000
/-- The last number. -/
def lastR (a : Int) (r : Rl) : Int := if r.num = true then r.fix else a
def lastv (a : Int) (l : List Rl) : Int := l.foldl lastR a
def lastS (a : Int) (xs : List Stp) : Int := xs.foldl (fun a x => lastv a x.l) a
theorem lastv_succ {a : Int} {l : List Rl} {p : Nat} {r : Rl} (h : l[p]? = some r) : lastv a (l.take (p + 1)) = lastR (lastv a (l.take p)) r := by
  unfold lastv
  rw [List.take_add_one, h, List.foldl_append]
  rfl
theorem lastS_succ {a : Int} {xs : List Stp} {j : Nat} {x : Stp} (h : xs[j]? = some x) : lastS a (xs.take (j + 1)) = lastv (lastS a (xs.take j)) x.l := by
  unfold lastS
  rw [take_stp h, List.foldl_append]
  rfl
theorem hear_val {c : Cf} (hk : c.k = 0) {t a : Int} {s : Ts} (h : s.known = true → s.value = a) (r : Rl) : (s.hear c t r).known = true → (s.hear c t r).value = lastR a r := by
  unfold Ts.hear lastR
  split
  · intro _
    show (s.ins.val c.k c.n t r.fix) = r.fix
    simp [Si.val, hk]
  · split
    · exact h
    · exact h
theorem fold_val {c : Cf} (hk : c.k = 0) {t : Int} : ∀ (l : List Rl) (a : Int) (s : Ts), (s.known = true → s.value = a) → (l.foldl (Ts.hear c t) s).known = true → (l.foldl (Ts.hear c t) s).value = lastv a l
  | [], _, _, h => h
  | r :: l, a, _, h => fold_val hk l (lastR a r) _ (hear_val hk h r)
theorem step_val {c : Cf} (hk : c.k = 0) {t a : Int} {s : Ts} (h : s.known = true → s.value = a) (l : List Rl) : (s.step c t l).known = true → (s.step c t l).value = lastv a l := by
  have h1 : (s.opn c t).known = true → (s.opn c t).value = a := by
    unfold Ts.opn
    split
    · intro q; cases q
    · exact h
  have h2 := fold_val hk (t := t) l a (s.opn c t) h1
  unfold Ts.step Ts.shut
  split
  · intro q; cases q
  · exact h2
theorem run_val {c : Cf} (hk : c.k = 0) {xs : List Stp} : ∀ j, j ≤ xs.length → (Ts.new.run c (xs.take j)).known = true → (Ts.new.run c (xs.take j)).value = lastS 0 (xs.take j) := by
  intro j
  induction j with
  | zero => intro _ h; cases h
  | succ j ih =>
    intro hj
    have hx : xs[j]? = some xs[j] := List.getElem?_eq_getElem (by omega)
    rw [Ts.run_succ c _ hx, lastS_succ hx]
    exact step_val hk (ih (by omega)) _
theorem plain_read {c : Cf} (hk : c.k = 0) {xs : List Stp} {j : Nat} {x : Stp} (hx : xs[j]? = some x) (h : ((Ts.new.run c (xs.take j)).read c x.tick x.l).s = 1 ∨ ((Ts.new.run c (xs.take j)).read c x.tick x.l).s = 2) : ((Ts.new.run c (xs.take j)).read c x.tick x.l).v = lastS 0 (xs.take (j + 1)) := by
  have hj : j < xs.length := by
    rcases Nat.lt_or_ge j xs.length with h' | h'
    · exact h'
    · rw [List.getElem?_eq_none h'] at hx; cases hx
  have hv := run_val hk (xs := xs) (j + 1) (by omega)
  rw [Ts.run_succ c _ hx] at hv
  unfold Ts.read Ts.rd at h ⊢
  split
  · rename_i hk2
    exact hv hk2
  · rename_i hk2
    rw [if_neg hk2] at h
    split at h
    · rcases h with h | h <;> cases h
    · rename_i h3
      exact absurd h h3
/-- What a number comes to is within bounds. -/
theorem fix_in (r : Rl) : -2147483647 ≤ r.fix ∧ r.fix ≤ 2147483647 := by
  unfold Rl.fix L2.fixZ L2.scaleZ
  split
  · omega
  · exact ⟨L2.cl_lo _, L2.cl_hi _⟩
theorem clamp_id {v : Int} (h : -2147483647 ≤ v ∧ v ≤ 2147483647) : clampZ v = v := by unfold clampZ; omega
theorem lastN_one (l : List Int) (v : Int) : lastN 1 (l ++ [v]) = [v] := by
  unfold lastN
  rw [List.length_append, List.length_singleton, show l.length + 1 - 1 = l.length by omega, List.drop_left]
theorem mid_single (x : Int) : L9.mid [x] = x := (L9.mid_iff (xs := [x]) (by simp) x).1 (by simp [L9.less, L9.noMore, L9.place])
/-- A filter that is a plain one. -/
def Pl (c : Cf) : Prop := (c.k = 0 ∧ c.n = 0) ∨ (c.k = 1 ∧ c.n = 1) ∨ (c.k = 2 ∧ c.n = 1) ∨ (c.k = 3 ∧ c.n = 1000)
theorem Pl.val {c : Cf} (h : Pl c) (t v : Int) (s : Si) (hv : -2147483647 ≤ v ∧ v ≤ 2147483647) : s.val c.k c.n t v = v ∧ s.has c.k c.n t v = true := by
  have e := clamp_id hv
  rcases h with ⟨h1, h2⟩ | ⟨h1, h2⟩ | ⟨h1, h2⟩ | ⟨h1, h2⟩
  · rw [h1, h2]; simp [Si.val, Si.has]
  · rw [h1, h2]
    refine ⟨?_, by simp [Si.has]⟩
    unfold Si.val
    rw [if_pos rfl, e, lastN_one, mid_single]
  · rw [h1, h2]
    refine ⟨?_, by simp [Si.has]⟩
    unfold Si.val
    rw [if_neg (by omega), if_pos rfl, e, lastN_one]
    unfold meanZ sumZ sumZ
    rw [Int.add_zero]
    exact near_one v
  · rw [h1, h2]
    refine ⟨?_, by simp [Si.has]⟩
    unfold Si.val
    rw [if_neg (by omega), if_neg (by omega), if_pos rfl, e]
    unfold L11.nxo
    cases s.o with
    | none => rfl
    | some y => exact L11.nx_whole y v
/-- Alike but for what is inside. -/
structure Alk (s s' : Ts) : Prop where
  lp : s.lp = s'.lp
  v : s.value = s'.value
  k : s.known = s'.known
  n : s.next = s'.next
theorem Alk.hear {c c' : Cf} (h : Pl c) (h' : Pl c') {t : Int} {s s' : Ts} (a : Alk s s') (r : Rl) : Alk (s.hear c t r) (s'.hear c' t r) := by
  unfold Ts.hear
  split
  · refine ⟨?_, ?_, ?_, a.n⟩
    · show s.lp.hear t false = s'.lp.hear t false
      rw [a.lp]
    · exact (h.val t r.fix _ (fix_in r)).1.trans (h'.val t r.fix _ (fix_in r)).1.symm
    · exact (h.val t r.fix _ (fix_in r)).2.trans (h'.val t r.fix _ (fix_in r)).2.symm
  · split
    · exact ⟨by show s.lp.hear t true = s'.lp.hear t true; rw [a.lp], a.v, a.k, a.n⟩
    · exact a
theorem Alk.fold {c c' : Cf} (h : Pl c) (h' : Pl c') {t : Int} : ∀ (l : List Rl) {s s' : Ts}, Alk s s' → Alk (l.foldl (Ts.hear c t) s) (l.foldl (Ts.hear c' t) s')
  | [], _, _, a => a
  | r :: l, _, _, a => Alk.fold h h' l (a.hear h h' r)
theorem Alk.anew {s s' : Ts} (a : Alk s s') : Alk s.anew s'.anew := ⟨a.lp, rfl, rfl, a.n⟩
theorem Alk.step {c c' : Cf} (h : Pl c) (h' : Pl c') (hs : c.st = c'.st) {t : Int} {s s' : Ts} (a : Alk s s') (l : List Rl) : Alk (s.step c t l) (s'.step c' t l) ∧ s.read c t l = s'.read c' t l := by
  have e0 : ∀ {x y : Ts}, Alk x y → x.at_ c t = y.at_ c' t := fun q => by unfold Ts.at_; rw [q.lp, hs]
  have g : Alk (s.goes t) (s'.goes t) := ⟨a.lp, a.v, a.k, rfl⟩
  have o : Alk (s.opn c t) (s'.opn c' t) := by
    unfold Ts.opn
    rw [e0 a]
    split
    · exact g.anew
    · exact g
  have f : Alk (s.hears c t l) (s'.hears c' t l) := Alk.fold h h' l o
  have st : Alk (s.step c t l) (s'.step c' t l) := by
    unfold Ts.step Ts.shut
    rw [e0 f]
    split
    · exact f.anew
    · exact f
  refine ⟨st, ?_⟩
  unfold Ts.read Ts.rd
  rw [e0 f, st.k, st.v]
theorem Alk.outs {c c' : Cf} (h : Pl c) (h' : Pl c') (hs : c.st = c'.st) : ∀ (xs : List Stp) {s s' : Ts}, Alk s s' → s.outs c xs = s'.outs c' xs
  | [], _, _, _ => rfl
  | x :: r, s, s', a => by
    have q := a.step h h' hs (t := x.tick) x.l
    show s.read c x.tick x.l :: (s.step c x.tick x.l).outs c r = s'.read c' x.tick x.l :: (s'.step c' x.tick x.l).outs c' r
    rw [q.2, Alk.outs h h' hs r q.1]
theorem plain_outs {c c' : Cf} (h : Pl c) (h' : Pl c') (hs : c.st = c'.st) (xs : List Stp) : Ts.new.outs c xs = Ts.new.outs c' xs := Alk.outs h h' hs xs ⟨rfl, rfl, rfl, rfl⟩
end Go.Proofs.Ytgapnimicaopcaa
