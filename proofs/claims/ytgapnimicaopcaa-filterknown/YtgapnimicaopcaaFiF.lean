/-
  A task takes a number: beats; and whatever is inside.
-/
import Derived.Test.YtgapnimicaopcaaFiE
namespace Go.Proofs.Ytgapnimicaopcaa
open Go.RowKit
set_option maxRecDepth 8000
/-- A pulse has taken a number: the answer, and what is inside then. -/
theorem pulse_any {w : World} {n q p B : Nat} {S : Nat → Prop} {s : Si} {u T : Value} (hq : w.heap[q]? = some (.cells #[Ptr p, T] 112 (0, 0))) (m : L12.BtX w p B n (lastN n s.l) u) (hne : q ≠ p) (hqB : q < B) (hB : B ≤ w.heap.size) (hs : ∀ i, S i ↔ i = q ∨ i = p ∨ u.ownBlock = some i) (t y : Int) :
    Calls Try.prog 49 #[Ptr q, .int .i64 y] (w.setCell ⟨q, 1, none⟩ (.int .i64 t)) fun e w1 => e = .returned (.tuple #[.int .i64 (s.val 4 n t y), .int .i64 (pulE (s.has 4 n t y))]) ∧ Pushed w (.iface 92 (Ptr q)) 4 n S (s.push 4 n t y) w1 := by
  have b0 := but_one w q 1 (.int .i64 t)
  have h0 := two_set1 hq (.int .i64 t)
  have nown : ∀ k, u.ownBlock = some k → ¬ One q k := fun k hk e => by
    have := (own_lt m.own hk).1
    cases e
    omega
  have m0 := m.but b0 (fun e => hne e.symm) nown
  have hB0 : B ≤ (w.setCell ⟨q, 1, none⟩ (.int .i64 t)).heap.size := Nat.le_trans hB b0.size
  have hsz : (w.setCell ⟨q, 1, none⟩ (.int .i64 t)).heap.size = w.heap.size := by simp [World.setCell]
  by_cases hy : 0 < y
  · have hv : s.val 4 n t y = L12.rv (lastN n (L12.nxt s.l t)) := by simp [Si.val, hy]
    have hh : s.has 4 n t y = L12.ris (lastN n (L12.nxt s.l t)) := by simp [Si.has, hy]
    have hp : s.push 4 n t y = ⟨L12.nxt s.l t, s.o⟩ := by simp [Si.push, hy]
    rw [hv, hh, hp]
    refine (pulseBeat h0 m0 hne hB0 y hy).mono ?_
    rintro e w1 ⟨rfl, b1, u', m1, hu⟩
    refine ⟨rfl, ?_, fun i => i = q ∨ i = p ∨ u'.ownBlock = some i, .inr (.inr (.inr (.inr ⟨rfl, q, p, B, u', .int .i64 t, rfl, (b1.block q (blk_lt h0) hne).trans h0, m1, hne, hqB, Nat.le_trans hB0 b1.size, fun i => Iff.rfl⟩))), ?_⟩
    · exact (b0.mono (fun i _ e => (hs i).2 (.inl e))).then b1 (fun i _ e => (hs i).2 (.inr (.inl e)))
    · intro i hi
      rcases hi with e | e | e
      · exact .inl ((hs i).2 (.inl e))
      · exact .inl ((hs i).2 (.inr (.inl e)))
      · rcases hu with rfl | hu
        · exact .inl ((hs i).2 (.inr (.inr e)))
        · exact .inr (by rw [← hsz]; exact hu i e)
  · have hv : s.val 4 n t y = L12.rv (lastN n s.l) := by simp [Si.val, hy]
    have hh : s.has 4 n t y = L12.ris (lastN n s.l) := by simp [Si.has, hy]
    have hp : s.push 4 n t y = s := by simp [Si.push, hy]
    rw [hv, hh, hp]
    refine (pulseRate h0 m0 y hy).mono ?_
    rintro e w1 ⟨rfl, a1⟩
    refine ⟨rfl, ?_, S, .inr (.inr (.inr (.inr ⟨rfl, q, p, B, u, .int .i64 t, rfl, (a1.block q (blk_lt h0) (fun t => t)).trans h0, m0.after a1, hne, hqB, Nat.le_trans hB0 a1.size, hs⟩))), new_in⟩
    exact (b0.mono (fun i _ e => (hs i).2 (.inl e))).then a1 (fun i _ e => e.elim)
theorem take_beat {w : World} {p q : Nat} {v : Value} {S : Nat → Prop} {c : Cf} {s : Ts} (x : TkX w p q v S c s) (hk : c.k = 4) (t y : Int) : Calls Try.prog 44 #[Ptr p, .int .i64 t, .int .i64 y] w fun e w' => e = .returned (.tuple #[]) ∧ Took w p q v S c (s.take c t y) w' := by
  rcases x.ins with ⟨h, _⟩ | ⟨h, _⟩ | ⟨h, _⟩ | ⟨h, _⟩ | ⟨h, g, r, B, u, T, rfl, hq, m, h1, h2, h3, hs⟩
  · omega
  · omega
  · omega
  · omega
  · have H := hideIt (pulse_any hq m h1 h2 h3 hs t y)
    have HE : Hid (s.take c t y = ⟨s.ins.push 4 c.n t y, s.lp, s.ins.val 4 c.n t y, s.ins.has 4 c.n t y, s.next⟩) := by unfold Ts.take; rw [hk]; exact rfl
    generalize s.ins.push 4 c.n t y = i' at *
    generalize s.ins.val 4 c.n t y = R at *
    generalize s.ins.has 4 c.n t y = E at *
    generalize s.take c t y = s' at *
    have hta := fun w => Try.aPulse (Ptr g) w
    have h3' := blk_cell x.at0 (i := 3) rfl
    have cT := blk_cell hq (i := 1) rfl
    have sT := blk_soft hq 1
    have HX := hideIt x
    have HK := hideIt hk
    clear x hs m hq h1 h2 h3 h hk
    cases E
    all_goals
      go_enter Try.func44, Try.ntmps44
      go_wp2_with fail
      refine H.out.mono ?_
      rintro e w1 ⟨rfl, hx1⟩
      have g1 := (hx1.1.block p HX.out.lt HX.out.np).trans HX.out.at0
      have c5 := blk_cell g1 (i := 5) rfl
      have c6 := blk_cell g1 (i := 6) rfl
      have s5 := blk_soft g1 5
      have s6 := blk_soft g1 6
      have HY := hideIt hx1
      clear g1 hx1 h3' cT sT
      unfold pulE
      go_wp2_with fail
      obtain ⟨b1, S', i1, hS⟩ := HY.out
      rw [← HK.out] at i1
      have hr := fun kn => HX.out.put b1 i1 hS R kn
      exact bodyPost_end (v := .tuple #[]) (by simp [results, Try.results44, go_sem]) rfl ⟨rfl, S', by rw [HE.out]; exact (hr _).1, hS, (hr _).2⟩
theorem take_any {w : World} {p q : Nat} {v : Value} {S : Nat → Prop} {c : Cf} {s : Ts} (x : TkX w p q v S c s) (t y : Int) : Calls Try.prog 44 #[Ptr p, .int .i64 t, .int .i64 y] w fun e w' => e = .returned (.tuple #[]) ∧ Took w p q v S c (s.take c t y) w' := by
  rcases (by have := x.ok.kind; omega : c.k = 0 ∨ c.k = 1 ∨ c.k = 2 ∨ c.k = 3 ∨ c.k = 4) with h | h | h | h | h
  · exact take_plain x h t y
  · exact take_med x h t y
  · exact take_avg x h t y
  · exact take_slow x h t y
  · exact take_beat x h t y
end Go.Proofs.Ytgapnimicaopcaa
