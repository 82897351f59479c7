/-
  The document's put.
-/
import Derived.Test.YtkjjjibglaffnaaRxA
namespace Go.Proofs.Ytkjjjibglaffnaa
open Go.RowKit
set_option maxRecDepth 8000
set_option maxHeartbeats 2000000 in
theorem rput_any {w : World} {d : Rq} {x : Xp} (h : Rx w d x) (p : Int) (t : Tn) (vh : Value) (_hvh : vh.oneCell' = true) (i v : Int) : Calls Try.prog 41 #[Ptr d.q, .agg (turC p t vh), .int .i64 i, .int .i64 v] w fun e w' => e = .returned (.bool (putA x.L p t i)) ∧ RPut w d { x with L := putL x.L p t i v } w' := by
  have c2 : w.cell? ⟨d.q, 2, none⟩ = some (.slice d.la x.L.length d.lc) := blk_cell h.at0 (i := 2) rfl
  have c3 : w.cell? ⟨d.q, 3, none⟩ = some (.slice (some ⟨d.hb, 0, none⟩) x.L.length d.hc) := blk_cell h.at0 (i := 3) rfl
  have c4 : w.cell? ⟨d.q, 4, none⟩ = some (.slice (some ⟨d.vb, 0, none⟩) x.L.length d.vc) := blk_cell h.at0 (i := 4) rfl
  have lq := blk_lt h.at0
  have lh := blk_lt h.bh
  have lv := blk_lt h.bv
  have i0 : (x.L.length : Int) ≤ 16 := by have := h.ok.l2; omega
  obtain ⟨u, ov, fa⟩ := t
  rcases hl : lkAt x.L i with _ | l
  · have e1 : putA x.L p ⟨u, ov, fa⟩ i = false := by unfold putA; rw [hl]
    have e2 : putL x.L p ⟨u, ov, fa⟩ i v = x.L := by unfold putL; rw [hl]
    rw [e1, e2]
    have hi : i < 0 ∨ (¬ i < 0 ∧ (x.L.length : Int) ≤ i) := by
      unfold lkAt at hl
      split at hl
      · have := List.getElem?_eq_none_iff.1 hl; omega
      · omega
    have HX := hideIt h
    clear hl e1 e2 h c3 c4
    rcases hi with h1 | ⟨h1, h2⟩
    · have q0 : decide (i < 0) = true := decide_eq_true h1
      go_enter Try.func41, Try.ntmps41
      go_wp2_with fail
      go_quiet (fail)
      go_wp2_with fail
      go_ret
      exact ⟨rfl, HX.out.after (After.draws (After.rfl.alloc _) _), (After.draws (After.rfl.alloc _) _).but⟩
    · have q0 : decide (i < 0) = false := decide_eq_false h1
      have q1 : decide ((x.L.length : Int) ≤ i) = true := decide_eq_true h2
      go_enter Try.func41, Try.ntmps41
      go_wp2_with fail
      go_quiet (fail)
      go_wp2_with fail
      go_ret
      exact ⟨rfl, HX.out.after (After.draws (After.rfl.alloc _) _), (After.draws (After.rfl.alloc _) _).but⟩
  · obtain ⟨hi, hk, hkl⟩ := lkAt_nat hl
    obtain ⟨k, rfl⟩ : ∃ k : Nat, i = (k : Int) := ⟨i.toNat, by omega⟩
    rw [Int.toNat_natCast] at hk hkl
    obtain ⟨b, off, e, hb, d0, d1, d2, d3⟩ := h.link hk
    rw [e] at c2
    have i1 : (k : Int) < (x.L.length : Int) := by omega
    have i2 : ¬ x.L.length ≤ k := by omega
    have i3 : ¬ (k : Int) < 0 := by omega
    have q0 : decide ((k : Int) < 0) = false := decide_eq_false i3
    have q1 : decide (x.L.length ≤ k) = false := decide_eq_false i2
    have q2 : decide ((x.L.length : Int) ≤ (k : Int)) = false := decide_eq_false (by omega)
    have HX := hideIt (And.intro h hk)
    by_cases hp : l.f = p
    · have hne : (l.f != p) = false := by simp [hp]
      by_cases hst : ov || fa
      · have e1 : putA x.L p ⟨u, ov, fa⟩ k = false := by unfold putA; rw [hl]; simp [Tn.stop, hst]
        have e2 : putL x.L p ⟨u, ov, fa⟩ k v = x.L := by unfold putL; rw [hl]; simp [Tn.stop, hst]
        rw [e1, e2]
        clear hl e1 e2 h hp hk
        obtain ⟨lf, lt, lo⟩ := l
        dsimp only at *
        cases ov <;> cases fa <;> first | (exact absurd hst (by decide)) | skip
        all_goals
          go_enter Try.func41, Try.ntmps41
          go_wp2_with fail
          go_quiet (fail)
          go_wp2_with fail
          go_ret
          exact ⟨rfl, HX.out.1.after (After.draws (After.rfl.alloc _) _), (After.draws (After.rfl.alloc _) _).but⟩
      · obtain ⟨rfl, rfl⟩ : ov = false ∧ fa = false := by cases ov <;> cases fa <;> first | exact ⟨rfl, rfl⟩ | exact absurd rfl hst
        have e1 : putA x.L p ⟨u, false, false⟩ k = true := by unfold putA; rw [hl]; simp [Tn.stop, hp]
        have e2 : putL x.L p ⟨u, false, false⟩ k v = x.L.set k { l with o := some v } := by unfold putL; rw [hl]; simp [Tn.stop, hp]
        rw [e1, e2]
        have s3 := blk_soft h.bh k
        have s4 := blk_soft h.bv k
        obtain ⟨n1, n2, n3⟩ := h.ne
        have n4 := Ne.symm n1
        have n5 := Ne.symm n2
        have n6 := Ne.symm n3
        clear hl e1 e2 h hp hk
        go_enter Try.func41, Try.ntmps41
        go_wp2_with fail
        go_quiet (fail)
        go_wp2_with fail
        go_ret
        have a := (After.rfl (w := w)).alloc (.cells (turC p ⟨u, false, false⟩ vh) 92)
        exact ⟨rfl, ((HX.out.1.after (After.draws a _)).put HX.out.2 v).1, (After.draws a _).but.trans ((HX.out.1.after (After.draws a _)).put HX.out.2 v).2⟩
    · have hne : (l.f != p) = true := by simpa using hp
      have e1 : putA x.L p ⟨u, ov, fa⟩ k = false := by unfold putA; rw [hl]; simp [hp]
      have e2 : putL x.L p ⟨u, ov, fa⟩ k v = x.L := by unfold putL; rw [hl]; simp [hp]
      rw [e1, e2]
      clear hl e1 e2 h hp hk
      obtain ⟨lf, lt, lo⟩ := l
      dsimp only at *
      go_enter Try.func41, Try.ntmps41
      go_wp2_with fail
      go_quiet (fail)
      go_wp2_with fail
      go_ret
      exact ⟨rfl, HX.out.1.after (After.draws (After.rfl.alloc _) _), (After.draws (After.rfl.alloc _) _).but⟩
end Go.Proofs.Ytkjjjibglaffnaa
