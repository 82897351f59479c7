/-
  Package alarm: which states may be; Again, New; what is none.
-/
import Derived.Test.YthggkpmhcdmalaaAlA
namespace Go.Proofs.Ythggkpmhcdmalaa
open Go.RowKit
set_option maxRecDepth 8000
/-- Which states may be, way by way. -/
theorem st_ways (s : Sp) (x : As) : (decide (s.Stands x) = false ∧ x.pa < 0) ∨ (decide (s.Stands x) = false ∧ ¬ x.pa < 0 ∧ 6000 < x.pa) ∨
    (¬ x.pa < 0 ∧ ¬ 6000 < x.pa ∧ ((x.ph = 0 ∧ decide (s.Stands x) = (decide (x.pr = 0) && decide (x.si = 0))) ∨ (x.ph = 1 ∧ decide (s.Stands x) = (decide (s.Counts x.pr) && decide (s.Lasts x))) ∨
      (x.ph = 2 ∧ decide (s.Stands x) = (decide (s.Counts x.pr) && decide (x.si = 0))) ∨ (x.ph = 3 ∧ decide (s.Stands x) = (s.la && (decide (s.Counts x.pr) && decide (x.si = 0)))) ∨ (¬ x.ph = 0 ∧ ¬ x.ph = 1 ∧ ¬ x.ph = 2 ∧ ¬ x.ph = 3 ∧ decide (s.Stands x) = false))) := by
  by_cases h1 : x.pa < 0
  · exact .inl ⟨decide_eq_false (fun h => by have := h.1; omega), h1⟩
  · by_cases h2 : 6000 < x.pa
    · exact .inr (.inl ⟨decide_eq_false (fun h => by have := h.2.1; omega), h1, h2⟩)
    · refine .inr (.inr ⟨h1, h2, ?_⟩)
      have b1 : 0 ≤ x.pa := by omega
      have b2 : x.pa ≤ 6000 := by omega
      by_cases e0 : x.ph = 0
      · refine .inl ⟨e0, ?_⟩
        rw [← Bool.decide_and]
        apply decide_eq_decide.2
        exact ⟨fun h => by rcases h.2.2 with h | h | h | h; exact h.2; omega; omega; omega, fun h => ⟨b1, b2, .inl ⟨e0, h⟩⟩⟩
      by_cases e1 : x.ph = 1
      · refine .inr (.inl ⟨e1, ?_⟩)
        rw [← Bool.decide_and]
        apply decide_eq_decide.2
        exact ⟨fun h => by rcases h.2.2 with h | h | h | h; omega; exact h.2; omega; omega, fun h => ⟨b1, b2, .inr (.inl ⟨e1, h⟩)⟩⟩
      by_cases e2 : x.ph = 2
      · refine .inr (.inr (.inl ⟨e2, ?_⟩))
        rw [← Bool.decide_and]
        apply decide_eq_decide.2
        exact ⟨fun h => by rcases h.2.2 with h | h | h | h; omega; omega; exact h.2; omega, fun h => ⟨b1, b2, .inr (.inr (.inl ⟨e2, h⟩))⟩⟩
      by_cases e3 : x.ph = 3
      · refine .inr (.inr (.inr (.inl ⟨e3, ?_⟩)))
        refine Eq.trans (b := decide (s.la = true ∧ s.Counts x.pr ∧ x.si = 0)) ?_ (by rw [Bool.decide_and, Bool.decide_and, Bool.decide_eq_true])
        apply decide_eq_decide.2
        exact ⟨fun h => by rcases h.2.2 with h | h | h | h; omega; omega; omega; exact h.2, fun h => ⟨b1, b2, .inr (.inr (.inr ⟨e3, h⟩))⟩⟩
      exact .inr (.inr (.inr (.inr ⟨e0, e1, e2, e3, decide_eq_false (fun h => by rcases h.2.2 with h | h | h | h <;> omega)⟩)))
set_option maxHeartbeats 1000000 in
theorem mayStand_any (w : World) (s : Sp) (x : As) : Calls Try.prog 25 #[s.v, x.v] w fun e w' => e = .returned (.bool (decide (s.Stands x))) ∧ After w w' := by
  have HC := hideIt (fun V => counts_any V s x.pr)
  have HL := hideIt (fun V => lasts_any V s x)
  have HB := hideIt (fun V h => box_two w s x V h)
  have H := st_ways s x
  have HA := hideIt (boxed_after w s x)
  unfold boxed Sp.cs As.cs at HA HB
  unfold Sp.v As.v at *
  generalize decide (s.Counts x.pr) = C at *
  generalize decide (s.Lasts x) = D at *
  generalize decide (s.Stands x) = S at *
  generalize s.pr = P at *
  generalize s.es = E at *
  generalize s.la = L at *
  generalize x.ph = p1 at *
  generalize x.pr = p2 at *
  generalize x.si = p3 at *
  generalize x.pa = p4 at *
  rcases H with ⟨rfl, h1⟩ | ⟨rfl, h1, h2⟩ | ⟨h1, h2, H⟩
  · clear HC HL HB
    go_enter Try.func25, Try.ntmps25
    go_wp2
    go_ret
    exact ⟨rfl, HA.out⟩
  · clear HC HL HB
    go_enter Try.func25, Try.ntmps25
    go_wp2
    go_ret
    exact ⟨rfl, HA.out⟩
  · rcases H with ⟨rfl, rfl⟩ | ⟨rfl, rfl⟩ | ⟨rfl, rfl⟩ | ⟨rfl, rfl⟩ | ⟨e0, e1, e2, e3, rfl⟩
    · clear HC HL HB
      by_cases g1 : p2 = 0
      · by_cases g2 : p3 = 0
        · subst g1 g2
          go_enter Try.func25, Try.ntmps25
          go_wp2
          go_ret
          exact ⟨rfl, HA.out⟩
        · have hb : (p3 == 0) = false := by simpa using g2
          rw [decide_eq_false g2]
          subst g1
          go_enter Try.func25, Try.ntmps25
          go_wp2
          go_ret
          exact ⟨rfl, HA.out⟩
      · have hb : (p2 == 0) = false := by simpa using g1
        rw [decide_eq_false g1]
        go_enter Try.func25, Try.ntmps25
        go_wp2
        go_ret
        exact ⟨rfl, HA.out⟩
    · cases C
      · go_enter Try.func25, Try.ntmps25
        go_wp2_with fail
        refine (HC.out _).mono ?_
        rintro e w1 ⟨rfl, a1⟩
        go_wp2
        go_ret
        exact ⟨rfl, HA.out.trans a1⟩
      · go_enter Try.func25, Try.ntmps25
        go_wp2_with fail
        refine (HC.out _).mono ?_
        rintro e w1 ⟨rfl, a1⟩
        obtain ⟨c0, c1, c2, c3, c4, c5, c6⟩ := HB.out _ a1
        have A1 := hideIt a1
        clear a1
        go_wp2_with fail
        refine (HL.out _).mono ?_
        rintro e w2 ⟨rfl, a2⟩
        go_wp2
        go_ret
        exact ⟨rfl, (HA.out.trans A1.out).trans a2⟩
    · cases C
      · go_enter Try.func25, Try.ntmps25
        go_wp2_with fail
        refine (HC.out _).mono ?_
        rintro e w1 ⟨rfl, a1⟩
        go_wp2
        go_ret
        exact ⟨rfl, HA.out.trans a1⟩
      · have HQ := hideIt (show (p3 == 0) = decide (p3 = 0) by rw [Bool.beq_eq_decide_eq])
        generalize decide (p3 = 0) = q at *
        go_enter Try.func25, Try.ntmps25
        go_wp2_with fail
        refine (HC.out _).mono ?_
        rintro e w1 ⟨rfl, a1⟩
        obtain ⟨c0, c1, c2, c3, c4, c5, c6⟩ := HB.out _ a1
        have hq := HQ.out
        have A1 := hideIt a1
        clear a1
        go_wp2
        go_ret
        exact ⟨by simp, HA.out.trans A1.out⟩
    · cases L
      · go_enter Try.func25, Try.ntmps25
        go_wp2
        go_ret
        exact ⟨rfl, HA.out⟩
      · cases C
        · go_enter Try.func25, Try.ntmps25
          go_wp2_with fail
          refine (HC.out _).mono ?_
          rintro e w1 ⟨rfl, a1⟩
          go_wp2
          go_ret
          exact ⟨rfl, HA.out.trans a1⟩
        · have HQ := hideIt (show (p3 == 0) = decide (p3 = 0) by rw [Bool.beq_eq_decide_eq])
          generalize decide (p3 = 0) = q at *
          go_enter Try.func25, Try.ntmps25
          go_wp2_with fail
          refine (HC.out _).mono ?_
          rintro e w1 ⟨rfl, a1⟩
          obtain ⟨c0, c1, c2, c3, c4, c5, c6⟩ := HB.out _ a1
          have hq := HQ.out
          have A1 := hideIt a1
          clear a1
          go_wp2
          go_ret
          exact ⟨by simp, HA.out.trans A1.out⟩
    · have b0 : (p1 == 0) = false := by simpa using e0
      have b1 : (p1 == 1) = false := by simpa using e1
      have b2 : (p1 == 2) = false := by simpa using e2
      have b3 : (p1 == 3) = false := by simpa using e3
      clear HC HL HB
      go_enter Try.func25, Try.ntmps25
      go_wp2
      go_ret
      exact ⟨rfl, HA.out⟩
end Go.Proofs.Ythggkpmhcdmalaa
