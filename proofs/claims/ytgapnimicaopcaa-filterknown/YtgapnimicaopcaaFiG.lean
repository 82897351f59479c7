/-
  A task: its state, begun anew; it hears a real; its reading.
-/
import Derived.Test.YtgapnimicaopcaaFiF
import Derived.Test.YtgapnimicaopcaaR2Pack
import Derived.Test.YtgapnimicaopcaaR2Fix
namespace Go.Proofs.Ytgapnimicaopcaa
open Go.RowKit
set_option maxRecDepth 8000
theorem state_any {w : World} {p q : Nat} {v : Value} {S : Nat → Prop} {c : Cf} {s : Ts} (x : TkX w p q v S c s) (t : Int) : Calls Try.prog 27 #[Ptr p, .int .i64 t] w fun e w' => e = .returned (.int .i64 (s.at_ c t)) ∧ w' = w := by
  have c4 := blk_cell x.at0 (i := 4) rfl
  have H := hideIt (L13.lpState_any x.lap t)
  clear x
  unfold Ts.at_
  generalize s.lp.ans c.st t = A at *
  generalize s.lp.err t = E at *
  go_enter Try.func27, Try.ntmps27
  go_wp2_with (go_at_call 42; refine H.out.mono ?_; rintro e w' ⟨rfl, rfl⟩)
  go_ret
  exact ⟨rfl, rfl⟩
theorem Cf.Ok.mayK {c : Cf} (h : c.Ok) : MayK c.k c.n := by
  unfold MayK L9.May L10.May L11.May L12.May
  have := h.kind
  omega
/-- Blocks of a task: its own, its lapse's, those of what is inside. -/
def Ta (p q : Nat) (S : Nat → Prop) : Nat → Prop := fun i => i = p ∨ i = q ∨ S i
theorem TkX.fresh {w w1 : World} {p q : Nat} {v v' : Value} {S S' : Nat → Prop} {c : Cf} {s : Ts} (x : TkX w p q v S c s) (a : After w w1) (i1 : Ins w1 c.k c.n S' Si.new v') (hS : ∀ i, S' i → w.heap.size ≤ i) :
    TkX (((w1.setCell ⟨p, 3, none⟩ v').setCell ⟨p, 5, none⟩ (.int .i64 0)).setCell ⟨p, 6, none⟩ (.bool false)) p q v' S' c s.anew ∧ But (One p) w (((w1.setCell ⟨p, 3, none⟩ v').setCell ⟨p, 5, none⟩ (.int .i64 0)).setCell ⟨p, 6, none⟩ (.bool false)) := by
  have h1 := (a.block p x.lt (fun t => t)).trans x.at0
  have np' : ¬ S' p := fun h => by have := hS p h; have := x.lt; omega
  have nq' : ¬ S' q := fun h => by have := hS q h; have := x.lap.lt; omega
  have b2 : But (One p) w1 (((w1.setCell ⟨p, 3, none⟩ v').setCell ⟨p, 5, none⟩ (.int .i64 0)).setCell ⟨p, 6, none⟩ (.bool false)) := ((but_one w1 p 3 _).trans (but_one _ p 5 _)).trans (but_one _ p 6 _)
  refine ⟨{ at0 := ?_, lap := (x.lap.after a).but b2 (fun e => x.ne e.symm), ins := i1.but b2 (fun i hi e => by cases e; exact np' hi), ok := x.ok, ne := x.ne, np := np', nq := nq', lo := x.lo, hi := x.hi }, ?_⟩
  · exact blk_put (blk_put (blk_put h1 3 v') 5 (.int .i64 0)) 6 (.bool false)
  · exact a.but.trans b2
theorem Ins.iface {w : World} {k n : Nat} {S : Nat → Prop} {s : Si} {v : Value} (x : Ins w k n S s v) : ∃ T u, v = .iface T u := by
  rcases x with ⟨_, h, _⟩ | ⟨_, p, h, _⟩ | ⟨_, p, h, _⟩ | ⟨_, p, h, _⟩ | ⟨_, q, p, B, u, T, h, _⟩
  all_goals exact ⟨_, _, h⟩
theorem anew_any {w : World} {p q : Nat} {v : Value} {S : Nat → Prop} {c : Cf} {s : Ts} (x : TkX w p q v S c s) : Calls Try.prog 28 #[Ptr p] w fun e w' => e = .returned (.tuple #[]) ∧ ∃ v' S', TkX w' p q v' S' c s.anew ∧ (∀ i, S' i → w.heap.size ≤ i) ∧ But (One p) w w' := by
  have c0 := blk_cell x.at0 (i := 0) rfl
  have c1 := blk_cell x.at0 (i := 1) rfl
  have c2 := blk_cell x.at0 (i := 2) rfl
  have H := hideIt (insideOf_ok w c.k c.n c.st x.ok.mayK)
  have HX := hideIt x
  clear x
  go_enter Try.func28, Try.ntmps28
  go_wp2_with fail
  refine H.out.mono ?_
  rintro e w1 ⟨v', S', rfl, hx1⟩
  obtain ⟨T, u, rfl⟩ := hx1.1.iface
  have g1 := (hx1.2.2.block p HX.out.lt (fun t => t)).trans HX.out.at0
  have d3 := blk_cell g1 (i := 3) rfl
  have d5 := blk_cell g1 (i := 5) rfl
  have d6 := blk_cell g1 (i := 6) rfl
  have s3 := blk_soft g1 3
  have s5 := blk_soft g1 5
  have s6 := blk_soft g1 6
  have HY := hideIt hx1
  clear g1 hx1 c0 c1 c2
  go_wp2_with fail
  obtain ⟨i1, hS, a1⟩ := HY.out
  have hr := HX.out.fresh a1 i1 hS
  exact bodyPost_end (v := .tuple #[]) (by simp [results, Try.results28, go_sem]) rfl ⟨rfl, .iface T u, S', hr.1, hS, hr.2⟩
/-- A real, by value. -/
abbrev Rl.val (r : Rl) : Value := .agg #[.int .i64 r.k, .int .i64 r.m, .int .i64 r.e]
/-- The lapse has heard. -/
theorem TkX.lap_ {w w1 : World} {p q : Nat} {v : Value} {S : Nat → Prop} {c : Cf} {s : Ts} (x : TkX w p q v S c s) {t : Int} {o : Bool} (l : L13.LpX w1 q c.st (s.lp.hear t o)) (b : But (One q) w w1) : TkX w1 p q v S c (s.lap t o) :=
  { at0 := (b.block p x.lt (fun e => x.ne e)).trans x.at0, lap := l, ins := x.ins.but b (fun i hi e => by cases e; exact x.nq hi), ok := x.ok, ne := x.ne, np := x.np, nq := x.nq, lo := x.lo, hi := x.hi }
theorem fixed_any (r : Rl) (w : World) : Calls Try.prog 12 #[r.val] w fun x w' => x = .returned (.tuple #[.int .i64 (if r.num = true then r.fix else 0), .bool r.num]) ∧ After w w' := by
  unfold Rl.num Rl.fix
  rcases hn : L2.numB r.k r.m r.e with _ | _
  · refine (L2.fixed_no r.k r.m r.e w hn).mono ?_
    rintro e w' ⟨rfl, ha⟩
    exact ⟨rfl, After.of ha⟩
  · have hb := L2.num_bd hn
    refine (L2.fixed_yes r.k r.m r.e w hn hb.2.2.2.1 hb.2.2.2.2).mono ?_
    rintro e w' ⟨rfl, ha⟩
    exact ⟨rfl, After.of ha⟩
theorem hear_any {w : World} {p q : Nat} {v : Value} {S : Nat → Prop} {c : Cf} {s : Ts} (x : TkX w p q v S c s) (t : Int) (r : Rl) : Calls Try.prog 29 #[Ptr p, .int .i64 t, r.val] w fun e w' => e = .returned (.tuple #[]) ∧ ∃ S', TkX w' p q v S' c (s.hear c t r) ∧ (∀ i, S' i → S i ∨ w.heap.size ≤ i) ∧ But (Ta p q S) w w' := by
  have HF := hideIt (fun W => fixed_any r W)
  have HX := hideIt x
  unfold Ts.hear
  rcases hn : r.num with _ | _
  · rw [hn] at HF
    by_cases h2 : r.k = 2
    · rw [if_neg (by simp), if_pos h2]
      obtain ⟨k, m, e⟩ := r
      dsimp only at h2
      subst h2
      clear x hn
      go_enter Try.func29, Try.ntmps29
      go_wp2_with fail
      refine (HF.out _).mono ?_
      rintro e w1 ⟨rfl, a1⟩
      have aw : After w w1 := (After.rfl.alloc _).trans a1
      have x1 := HX.out.after aw
      have c4 := blk_cell x1.at0 (i := 4) rfl
      have d0 := a1.cell (g := w.heap.size) (by simp) 0
      have H := hideIt (L13.lpHeard_any x1.lap t true)
      have HY := hideIt (And.intro x1 aw)
      clear x1 a1 aw
      go_wp2_with (go_at_call 43; refine H.out.mono ?_; rintro e w2 ⟨rfl, l2, b2⟩)
      obtain ⟨x1, aw⟩ := HY.out
      exact bodyPost_end (v := .tuple #[]) (by simp [results, Try.results29, go_sem]) rfl ⟨rfl, S, x1.lap_ l2 b2, new_in, aw.but.then b2 (fun i _ e => .inr (.inl e))⟩
    · rw [if_neg (by simp), if_neg h2]
      clear x hn
      go_enter Try.func29, Try.ntmps29
      go_wp2_with fail
      refine (HF.out _).mono ?_
      rintro e w1 ⟨rfl, a1⟩
      have d0 := a1.cell (g := w.heap.size) (by simp) 0
      go_wp2_with fail
      have aw : After w w1 := (After.rfl.alloc _).trans a1
      exact bodyPost_end (v := .tuple #[]) (by simp [results, Try.results29, go_sem]) rfl ⟨rfl, S, HX.out.after aw, new_in, aw.but⟩
  · rw [hn, if_pos rfl] at HF
    rw [if_pos rfl]
    generalize r.fix = y at *
    clear x hn
    go_enter Try.func29, Try.ntmps29
    go_wp2_with fail
    refine (HF.out _).mono ?_
    rintro e w1 ⟨rfl, a1⟩
    have aw : After w w1 := (After.rfl.alloc _).trans a1
    have x1 := HX.out.after aw
    have c4 := blk_cell x1.at0 (i := 4) rfl
    have H := hideIt (L13.lpHeard_any x1.lap t false)
    have HY := hideIt (And.intro x1 aw)
    clear x1 a1 aw
    go_wp2_with fail
    refine H.out.mono ?_
    rintro e w2 ⟨rfl, l2, b2⟩
    have x2 := HY.out.1.lap_ l2 b2
    have H3 := hideIt (take_any x2 t y)
    have HZ := hideIt (And.intro b2 HY.out.2)
    clear l2 b2 x2 HY HX
    go_wp2_with fail
    refine H3.out.mono ?_
    rintro e w3 ⟨rfl, S', x3, hS, b3⟩
    have HW := hideIt (And.intro x3 (And.intro hS b3))
    clear x3 hS b3
    go_wp2_with fail
    obtain ⟨x3, hS, b3⟩ := HW.out
    obtain ⟨b2, aw⟩ := HZ.out
    have hsz := Nat.le_trans aw.size b2.size
    exact bodyPost_end (v := .tuple #[]) (by simp [results, Try.results29, go_sem]) rfl ⟨rfl, S', x3, fun i hi => (hS i hi).imp id (fun h => Nat.le_trans hsz h), (aw.but.then b2 (fun i _ e => .inr (.inl e))).then b3 (fun i _ e => e.elim .inl (fun h => .inr (.inr h)))⟩
end Go.Proofs.Ytgapnimicaopcaa
