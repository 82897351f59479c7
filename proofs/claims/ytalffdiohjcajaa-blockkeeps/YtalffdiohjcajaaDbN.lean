/-
  BlockKeeps' books: what was flushed, what was written since, which sectors were touched; a torn sector.
-/
import Derived.Test.YtalffdiohjcajaaDbK
namespace Go.Proofs.Ytalffdiohjcajaa
open Go.RowKit
set_option maxRecDepth 8000
theorem settle_all (K L c : Int) : ∃ t, t ≤ 64 ∧ settle (allB K) (allB L) c = List.replicate t (L % 256) ++ List.replicate (64 - t) (K % 256) := by
  unfold settle
  split
  · exact ⟨0, by omega, rfl⟩
  · split
    · exact ⟨64, by omega, (List.append_nil _).symm⟩
    · refine ⟨(c % 189 / 3 + 1).toNat, by omega, ?_⟩
      unfold allB
      rw [List.take_replicate, List.drop_replicate, Nat.min_eq_left (by omega)]
theorem rep_at (t : Nat) (ht : t ≤ 64) (l k : Int) {i : Nat} (hi : i < 64) : (List.replicate t l ++ List.replicate (64 - t) k).getD i 0 = if i < t then l else k := by
  rw [List.getD_eq_getElem?_getD]
  by_cases h : i < t
  · rw [List.getElem?_append_left (by rw [List.length_replicate]; exact h), List.getElem?_replicate, if_pos h, if_pos h]
    rfl
  · rw [List.getElem?_append_right (by rw [List.length_replicate]; omega), List.getElem?_replicate, List.length_replicate, if_pos (by omega), if_neg h]
    rfl
/-- Behind the place where it is torn a sector has what it kept. -/
def Torn (b : List Int) (k l : Int) (q : Bool) : Prop := ∀ i j, i ≤ j → j < 64 → (q = false ∨ b.getD i 0 ≠ l) → b.getD j 0 = k
theorem torn_all (k l : Int) (hk : 0 ≤ k ∧ k ≤ 255) (q : Bool) : Torn (allB k) k l q := fun i j _ hj _ => by
  rw [allB_at k hj]
  omega
theorem torn_settle (k l c : Int) (hk : 0 ≤ k ∧ k ≤ 255) (hl : 0 ≤ l ∧ l ≤ 255) : Torn (settle (allB k) (allB l) c) k l true := fun i j hij hj h => by
  obtain ⟨t, ht, e⟩ := settle_all k l c
  rw [e] at h ⊢
  rw [rep_at t ht _ _ hj]
  rw [rep_at t ht _ _ (by omega)] at h
  by_cases hi : i < t
  · rw [if_pos hi] at h
    rcases h with h | h
    · cases h
    · exact absurd (by omega) h
  · rw [if_neg (by omega)]
    omega
/-- The first loop's books. -/
structure Kp1 (w0 W : World) (d g m p q : Nat) (x : Dv) (kb : Nat → Int) : Prop where
  so : Sole w0 W d g m x
  ru : Runs x 8
  ap : Arr W p 36 8 (fun i => .int .i64 (kb i))
  aq : Arr W q 36 8 (fun i => .int .i64 (kb i))
  np : ¬ InD d g m p
  nq : ¬ InD d g m q
  pq : p ≠ q
  wp : w0.heap.size ≤ p
  wq : w0.heap.size ≤ q
  ls : ∀ i, i < 8 → x.last i = allB (kb i)
  bd : ∀ i, 0 ≤ kb i ∧ kb i ≤ 255
theorem Kp1.after {w0 W W' : World} {d g m p q : Nat} {x : Dv} {kb : Nat → Int} (h : Kp1 w0 W d g m p q x kb) (a : After W W') : Kp1 w0 W' d g m p q x kb :=
  { h with so := h.so.after a, ap := h.ap.after a, aq := h.aq.after a }
theorem Sole.cell {w0 W : World} {d g m : Nat} {x : Dv} (s : Sole w0 W d g m x) {p : Nat} (hp : ¬ InD d g m p) (hw : w0.heap.size ≤ p) (i : Nat) (v : Value) : Sole w0 (W.setCell ⟨p, i, none⟩ v) d g m x := by
  have hb := but_one W p i v
  exact ⟨s.dv.but hb (fun k hk e => hp (by rw [← (show k = p from e)]; exact hk)), s.af.then hb (fun k hk e => by have e : k = p := e; omega), s.new⟩
theorem upd_fun (k : Nat) (y : Int) (kb : Nat → Int) : (fun i => if i = k then Value.int .i64 y else Value.int .i64 (kb i)) = fun i => Value.int .i64 (if i = k then y else kb i) := by
  funext i
  split <;> rfl
theorem upd_funB (k : Nat) (y : Bool) (kb : Nat → Bool) : (fun i => if i = k then Value.bool y else Value.bool (kb i)) = fun i => Value.bool (if i = k then y else kb i) := by
  funext i
  split <;> rfl
theorem upd_bd {k : Nat} {y : Nat} {kb : Nat → Int} (hy : y < 256) (h : ∀ i, 0 ≤ kb i ∧ kb i ≤ 255) (i : Nat) : 0 ≤ (if i = k then (y : Int) else kb i) ∧ (if i = k then (y : Int) else kb i) ≤ 255 := by
  by_cases e : i = k
  · rw [if_pos e]; omega
  · rw [if_neg e]; exact h i
/-- Behind a write both books are written. -/
theorem Kp1.wrote {w0 W W' : World} {d g m p q : Nat} {x : Dv} {kb : Nat → Int} (h : Kp1 w0 W d g m p q x kb) {k : Nat} (hk : k < 8) {v : Int} {y : Nat} (hy8 : y < 256) (hy : (y : Int) = v % 256) (s : Sole w0 W' d g m (x.put k (allB v))) (b : But (InD d g m) W W') :
    W'.cell? ⟨p, k, none⟩ = some (.int .i64 (kb k)) ∧ W'.frozen? ⟨p, k, none⟩ = false ∧
    ∀ V, V = W'.setCell ⟨p, k, none⟩ (.int .i64 y) → V.cell? ⟨p, k, none⟩ = some (.int .i64 y) ∧ V.cell? ⟨q, k, none⟩ = some (.int .i64 (kb k)) ∧ V.frozen? ⟨q, k, none⟩ = false ∧ Sole w0 V d g m (x.put k (allB v)) ∧
      Kp1 w0 (V.setCell ⟨q, k, none⟩ (.int .i64 y)) d g m p q (x.put k (allB v)) (fun i => if i = k then (y : Int) else kb i) := by
  have ap := h.ap.but b h.np
  have aq := h.aq.but b h.nq
  refine ⟨ap.cell hk, ap.soft k, fun V hV => ?_⟩
  subst hV
  have ap2 := ap.put hk (.int .i64 y)
  have aq2 := aq.but (but_one W' p k (.int .i64 y)) (fun e => h.pq e.symm)
  have s2 := s.cell h.np h.wp k (.int .i64 y)
  have c2 := ap2.cell hk
  rw [if_pos rfl] at c2
  refine ⟨c2, aq2.cell hk, aq2.soft k, s2, ⟨s2.cell h.nq h.wq k _, h.ru.put _ _, ?_, ?_, h.np, h.nq, h.pq, h.wp, h.wq, fun i hi => ?_, upd_bd hy8 h.bd⟩⟩
  · rw [← upd_fun]
    exact ap2.but (but_one _ q k _) (fun e => h.pq e)
  · rw [← upd_fun]
    exact aq2.put hk _
  · rw [put_last]
    by_cases e : i = k
    · rw [if_pos e, if_pos e, hy, allB_mod]
    · rw [if_neg e, if_neg e]
      exact h.ls i hi
/-- The second loop's books. -/
structure Kp2 (w0 W : World) (d g m p q r : Nat) (x : Dv) (kb lb : Nat → Int) (tb : Nat → Bool) : Prop where
  so : Sole w0 W d g m x
  ru : Runs x 8
  ap : Arr W p 36 8 (fun i => .int .i64 (kb i))
  aq : Arr W q 36 8 (fun i => .int .i64 (lb i))
  ar : Arr W r 42 8 (fun i => .bool (tb i))
  np : ¬ InD d g m p
  nq : ¬ InD d g m q
  nr : ¬ InD d g m r
  pq : p ≠ q
  pr : p ≠ r
  qr : q ≠ r
  wp : w0.heap.size ≤ p
  wq : w0.heap.size ≤ q
  wr : w0.heap.size ≤ r
  ks : ∀ i, i < 8 → x.kp i = allB (kb i)
  ts : ∀ i, i < 8 → tb i = true → x.wr i = some (allB (lb i))
  ns : ∀ i, i < 8 → tb i = false → x.wr i = none
  bk : ∀ i, 0 ≤ kb i ∧ kb i ≤ 255
  bl : ∀ i, 0 ≤ lb i ∧ lb i ≤ 255
theorem Kp2.after {w0 W W' : World} {d g m p q r : Nat} {x : Dv} {kb lb : Nat → Int} {tb : Nat → Bool} (h : Kp2 w0 W d g m p q r x kb lb tb) (a : After W W') : Kp2 w0 W' d g m p q r x kb lb tb :=
  { h with so := h.so.after a, ap := h.ap.after a, aq := h.aq.after a, ar := h.ar.after a }
theorem Kp1.flushed {w0 W W' : World} {d g m p q : Nat} {x : Dv} {kb : Nat → Int} (h : Kp1 w0 W d g m p q x kb) (s : Sole w0 W' d g m x.flushed) (b : But (InD d g m) W W') :
    Kp2 w0 (W'.alloc (.cells (List.replicate 8 (.bool false)).toArray 42)) d g m p q W'.heap.size x.flushed kb kb (fun _ => false) := by
  have a : After W' (W'.alloc (.cells (List.replicate 8 (.bool false)).toArray 42)) := After.rfl.alloc _
  have ap := h.ap.but b h.np
  have aq := h.aq.but b h.nq
  have hlt := s.dv.lt
  exact ⟨s.after a, ⟨h.ru.d, h.ru.l, h.ru.s⟩, ap.after a, aq.after a, arr_rep 8 (.bool false) (heap_alloc_new W' _), h.np, h.nq, fun e => absurd (hlt _ e) (Nat.lt_irrefl _), h.pq, (fun e => by have := ap.lt; omega), (fun e => by have := aq.lt; omega), h.wp, h.wq, s.af.size,
    fun i hi => h.ls i hi, (fun i _ e => by cases e), fun _ _ _ => rfl, h.bd, h.bd⟩
theorem Kp2.wrote {w0 W W' : World} {d g m p q r : Nat} {x : Dv} {kb lb : Nat → Int} {tb : Nat → Bool} (h : Kp2 w0 W d g m p q r x kb lb tb) {k : Nat} (hk : k < 8) {v : Int} {y : Nat} (hy8 : y < 256) (hy : (y : Int) = v % 256) (s : Sole w0 W' d g m (x.put k (allB v))) (b : But (InD d g m) W W') :
    W'.cell? ⟨q, k, none⟩ = some (.int .i64 (lb k)) ∧ W'.frozen? ⟨q, k, none⟩ = false ∧
    ∀ V, V = W'.setCell ⟨q, k, none⟩ (.int .i64 y) → V.cell? ⟨r, k, none⟩ = some (.bool (tb k)) ∧ V.frozen? ⟨r, k, none⟩ = false ∧ Sole w0 V d g m (x.put k (allB v)) ∧
      Kp2 w0 (V.setCell ⟨r, k, none⟩ (.bool true)) d g m p q r (x.put k (allB v)) kb (fun i => if i = k then (y : Int) else lb i) (fun i => if i = k then true else tb i) := by
  have ap := h.ap.but b h.np
  have aq := h.aq.but b h.nq
  have ar := h.ar.but b h.nr
  refine ⟨aq.cell hk, aq.soft k, fun V hV => ?_⟩
  subst hV
  have bq := but_one W' q k (.int .i64 y)
  have aq2 := aq.put hk (.int .i64 y)
  have ap2 := ap.but bq (fun e => h.pq e)
  have ar2 := ar.but bq (fun e => h.qr e.symm)
  have s2 := s.cell h.nq h.wq k (.int .i64 y)
  have br := but_one (W'.setCell ⟨q, k, none⟩ (.int .i64 y)) r k (.bool true)
  refine ⟨ar2.cell hk, ar2.soft k, s2, ⟨s2.cell h.nr h.wr k _, h.ru.put _ _, ap2.but br (fun e => h.pr e), ?_, ?_, h.np, h.nq, h.nr, h.pq, h.pr, h.qr, h.wp, h.wq, h.wr, fun i hi => h.ks i hi, fun i hi ht => ?_, fun i hi ht => ?_, h.bk, upd_bd hy8 h.bl⟩⟩
  · rw [← upd_fun]
    exact aq2.but br (fun e => h.qr e)
  · rw [← upd_funB]
    exact ar2.put hk _
  · show (if i = k then some (allB v) else x.wr i) = some (allB (if i = k then (y : Int) else lb i))
    by_cases e : i = k
    · rw [if_pos e, if_pos e, hy, allB_mod]
    · rw [if_neg e, if_neg e]
      refine h.ts i hi ?_
      have ht : (if i = k then true else tb i) = true := ht
      rw [if_neg e] at ht
      exact ht
  · show (if i = k then some (allB v) else x.wr i) = none
    have ht : (if i = k then true else tb i) = false := ht
    by_cases e : i = k
    · rw [if_pos e] at ht
      cases ht
    · rw [if_neg e] at ht ⊢
      exact h.ns i hi ht
/-- What is read behind the power. -/
theorem Kp2.torn {w0 W : World} {d g m p q r : Nat} {x : Dv} {kb lb : Nat → Int} {tb : Nat → Bool} (h : Kp2 w0 W d g m p q r x kb lb tb) (ch : List Int) {k : Nat} (hk : k < 8) : Torn ((x.die.boot ch).last k) (kb k) (lb k) (tb k) := by
  have e : (x.die.boot ch).last k = bootK x ch k := last_none rfl
  rw [e]
  cases ht : tb k with
  | true =>
    rw [boot_some (h.ts k hk ht), h.ks k hk]
    exact torn_settle _ _ _ (h.bk k) (h.bl k)
  | false =>
    rw [boot_none (h.ns k hk ht), h.ks k hk]
    exact torn_all _ _ (h.bk k) _
end Go.Proofs.Ytalffdiohjcajaa
