/-
  Package alarm: the parts of a step, told by what is stored.
-/
import Derived.Test.YthggkpmhcdmalaaAlC
import Derived.Deep.RegionHeld3
import Derived.BigQuiet
namespace Go.Proofs.Ythggkpmhcdmalaa
open Go.RowKit
set_option maxRecDepth 8000
theorem wait_any {w : World} {p : Nat} {s : Sp} {x : As} (h : Al w p s x) : Calls Try.prog 33 #[Ptr p] w fun e w' => e = .returned (.int .i64 (wtE x)) ∧ Al w' p s (wtS x) ∧ But (One p) w w' := by
  have hc := cells_of h.at0
  have hw := wt_stands h.st
  have HX := hideIt h
  have b1 := h.st.1
  have b2 := h.st.2.1
  clear h
  by_cases h0 : x.pa = 0
  · have e1 : wtE x = 0 := by unfold wtE; rw [if_neg (by omega)]
    have e2 : wtS x = x := by unfold wtS; rw [if_pos h0]
    rw [e1, e2]
    obtain ⟨-, -, -, -, -, -, c6, -, -, -, -⟩ := hc
    rw [h0] at c6
    clear hw b1 b2 h0 e1 e2
    go_enter Try.func33, Try.ntmps33
    go_wp2
    go_ret
    exact ⟨rfl, HX.out, But.rfl⟩
  · have e2 : wtS x = { x with pa := x.pa - 1 } := by unfold wtS; rw [if_neg h0]
    have hA : ∀ w', w' = w.setCell ⟨p, 6, none⟩ (.int .i64 (x.pa - 1)) → Al w' p s (wtS x) ∧ But (One p) w w' := by
      intro w' e
      subst e
      exact ⟨⟨by rw [e2]; exact blk_put HX.out.at0 6 _, HX.out.may, hw⟩, but_one w p 6 _⟩
    have HA := hideIt hA
    obtain ⟨-, -, -, -, -, -, c6, -, -, -, f6⟩ := hc
    have hz : (x.pa == 0) = false := by simpa using h0
    have hw2 : IntKind.i64.wrap (x.pa - 1) = x.pa - 1 := IntWalk.i64_in _ (by omega)
    by_cases h1 : x.pa = 1
    · have e1 : wtE x = 4 := by unfold wtE; rw [if_pos h1]
      have hd : ¬ 0 < x.pa - 1 := by omega
      rw [e1]
      clear e1 e2 hA hw b1 b2 h0 h1
      generalize x.pa = X at *
      go_enter Try.func33, Try.ntmps33
      go_wp2
      go_ret
      exact ⟨rfl, HA.out _ rfl⟩
    · have e1 : wtE x = 0 := by unfold wtE; rw [if_neg h1]
      have hd : 0 < x.pa - 1 := by omega
      rw [e1]
      clear e1 e2 hA hw b1 b2 h0 h1
      generalize x.pa = X at *
      go_enter Try.func33, Try.ntmps33
      go_wp2
      go_ret
      exact ⟨rfl, HA.out _ rfl⟩
theorem raise_any {w : World} {p : Nat} {s : Sp} {x : As} (h : Al w p s x) (hs : s.Stands { x with ph := 1, pr := s.pr, si := 0 }) : Calls Try.prog 40 #[Ptr p] w fun e w' => e = .returned (.int .i64 1) ∧ Al w' p s { x with ph := 1, pr := s.pr, si := 0 } ∧ But (One p) w w' := by
  have hA : ∀ w', w' = ((w.setCell ⟨p, 3, none⟩ (.int .i64 1)).setCell ⟨p, 4, none⟩ (.int .i64 s.pr)).setCell ⟨p, 5, none⟩ (.int .i64 0) → Al w' p s { x with ph := 1, pr := s.pr, si := 0 } ∧ But (One p) w w' := by
    intro w' e
    subst e
    exact ⟨⟨blk_put (blk_put (blk_put h.at0 3 _) 4 _) 5 _, h.may, hs⟩, ((but_one w p 3 _).trans (but_one _ p 4 _)).trans (but_one _ p 5 _)⟩
  have HA := hideIt hA
  obtain ⟨c0, -, -, c3, c4, c5, -, f3, f4, f5, -⟩ := cells_of h.at0
  clear h hs hA
  go_enter Try.func40, Try.ntmps40
  go_wp2
  go_ret
  exact ⟨rfl, HA.out _ rfl⟩
theorem fall_latched {w : World} {p : Nat} {s : Sp} {x : As} (h : Al w p s x) (hs : s.Stands { x with ph := 3, si := 0 }) : Calls Try.prog 35 #[Ptr p, .int .i64 3] w fun e w' => e = .returned (.int .i64 2) ∧ Al w' p s { x with ph := 3, si := 0 } ∧ But (One p) w w' := by
  have hA : ∀ w', w' = (w.setCell ⟨p, 3, none⟩ (.int .i64 3)).setCell ⟨p, 5, none⟩ (.int .i64 0) → Al w' p s { x with ph := 3, si := 0 } ∧ But (One p) w w' := by
    intro w' e
    subst e
    exact ⟨⟨blk_put (blk_put h.at0 3 _) 5 _, h.may, hs⟩, (but_one w p 3 _).trans (but_one _ p 5 _)⟩
  have HA := hideIt hA
  obtain ⟨-, -, -, c3, c4, c5, -, f3, f4, f5, -⟩ := cells_of h.at0
  clear h hs hA
  go_enter Try.func35, Try.ntmps35
  go_wp2
  go_ret
  exact ⟨rfl, HA.out _ rfl⟩
theorem fall_quiet {w : World} {p : Nat} {s : Sp} {x : As} (h : Al w p s x) (hs : s.Stands { x with ph := 0, pr := 0, si := 0 }) : Calls Try.prog 35 #[Ptr p, .int .i64 0] w fun e w' => e = .returned (.int .i64 2) ∧ Al w' p s { x with ph := 0, pr := 0, si := 0 } ∧ But (One p) w w' := by
  have hA : ∀ w', w' = ((w.setCell ⟨p, 3, none⟩ (.int .i64 0)).setCell ⟨p, 5, none⟩ (.int .i64 0)).setCell ⟨p, 4, none⟩ (.int .i64 0) → Al w' p s { x with ph := 0, pr := 0, si := 0 } ∧ But (One p) w w' := by
    intro w' e
    subst e
    exact ⟨⟨blk_put (blk_put (blk_put h.at0 3 _) 5 _) 4 _, h.may, hs⟩, ((but_one w p 3 _).trans (but_one _ p 5 _)).trans (but_one _ p 4 _)⟩
  have HA := hideIt hA
  obtain ⟨-, -, -, c3, c4, c5, -, f3, f4, f5, -⟩ := cells_of h.at0
  clear h hs hA
  go_enter Try.func35, Try.ntmps35
  go_wp2
  go_ret
  exact ⟨rfl, HA.out _ rfl⟩
/-- A further step of what is raised, way by way. -/
theorem last_ways {s : Sp} {x : As} (hs : s.May) (hx : s.Stands x) (hp : x.ph = 1) : (¬ s.Grows x.pr ∧ mvE s x true = 0 ∧ mvS s x true = x) ∨ (s.Grows x.pr ∧ 0 ≤ x.si ∧ x.si + 1 < s.es ∧ mvE s x true = 0 ∧ mvS s x true = { x with si := x.si + 1 }) ∨ (s.Grows x.pr ∧ 0 ≤ x.si ∧ x.si ≤ 10000 ∧ ¬ x.si + 1 < s.es ∧ 0 ≤ x.pr ∧ x.pr ≤ 3 ∧ mvE s x true = 3 ∧ mvS s x true = { x with pr := x.pr + 1, si := 0 }) := by
  have n0 : ¬ (x.ph = 0 ∨ x.ph = 3) := by omega
  have hl : s.Counts x.pr ∧ s.Lasts x := by
    rcases hx.2.2 with h | h | h | h
    · omega
    · exact h.2
    · omega
    · omega
  have l1 : 0 ≤ x.si ∧ x.si ≤ 10000 := by
    have := hl.2
    have := hs.2.2.2
    unfold Sp.Lasts at *
    omega
  unfold mvE mvS
  rw [if_pos rfl, if_pos rfl, if_neg n0, if_neg n0, if_pos hp, if_pos hp]
  by_cases g : s.Grows x.pr
  · rw [if_pos g, if_pos g]
    by_cases l : x.si + 1 < s.es
    · rw [if_pos l, if_pos l]
      exact .inr (.inl ⟨g, l1.1, l, rfl, rfl⟩)
    · rw [if_neg l, if_neg l]
      have := hl.1
      have := hs.1
      refine .inr (.inr ⟨g, l1.1, l1.2, l, ?_, ?_, rfl, rfl⟩)
      · unfold Sp.Counts at *; omega
      · unfold Sp.Counts at *; omega
  · rw [if_neg g, if_neg g]
    exact .inl ⟨g, rfl, rfl⟩
set_option maxHeartbeats 1000000 in
theorem last_any {w : World} {p : Nat} {s : Sp} {x : As} (h : Al w p s x) (hp : x.ph = 1) : Calls Try.prog 41 #[Ptr p] w fun e w' => e = .returned (.int .i64 (mvE s x true)) ∧ Al w' p s (mvS s x true) ∧ But (One p) w w' := by
  have hst := mv_stands h.may h.st true
  have hes : s.es ≤ 10000 := h.may.2.2.2
  have HG := hideIt (fun V => grows_any V s x.pr)
  have HX := hideIt h
  have hcs : ∀ V, After w V → AlCs V p s x := fun V a => cells_of (h.after a).at0
  have HC := hideIt hcs
  have W := last_ways h.may h.st hp
  obtain ⟨c0, c1, c2, c3, c4, c5, c6, f3, f4, f5, f6⟩ := cells_of h.at0
  clear h hp hcs c3 c6 f3 f6
  rcases W with ⟨g, e1, e2⟩ | ⟨g, l0, l1, e1, e2⟩ | ⟨g, l0, l00, l1, q0, q1, e1, e2⟩
  · rw [decide_eq_false g] at HG
    rw [e1, e2]
    clear g e1 e2 hst hes
    go_enter Try.func41, Try.ntmps41
    go_wp2_with fail
    go_region_held3 (fun V => V.cell? ⟨p, 0, none⟩ = some (.int .i64 s.pr) ∧ V.cell? ⟨p, 1, none⟩ = some (.bool s.la) ∧ V.cell? ⟨p, 2, none⟩ = some (.int .i64 s.es) ∧ V.cell? ⟨p, 4, none⟩ = some (.int .i64 x.pr)) (first | go_keep | exact ⟨x0, x1, x2, x4⟩)
      (first
        | (go_at_call 42; refine (HG.out _).mono ?_; rintro e w3 ⟨rfl, a3⟩; have A3 := hideIt ((After.rfl.draws 1).trans a3); obtain ⟨x0, x1, x2, x3, x4, x5, x6, y3, y4, y5, y6⟩ := HC.out _ A3.out; clear a3 x3 x5 x6 y3 y4 y5 y6))
    clear x0 x1 x2 x4 c0 c1 c2 c4 c5 f4 f5 HG
    go_wp2
    go_ret
    exact ⟨rfl, HX.out.after A3.out, A3.out.but⟩
  · rw [decide_eq_true g] at HG
    have hA : ∀ V, After w V → ∀ n w', w' = (V.setCell ⟨p, 5, none⟩ (.int .i64 (x.si + 1))).drewN n → Al w' p s (mvS s x true) ∧ But (One p) w w' := by
      intro V a n w' e
      subst e
      exact ⟨⟨by rw [e2]; exact blk_put (HX.out.after a).at0 5 _, HX.out.may, hst⟩, (a.but.trans (but_one V p 5 _)).draws n⟩
    have HA := hideIt hA
    rw [e1]
    clear g e1 e2 hst hA
    go_enter Try.func41, Try.ntmps41
    go_wp2_with fail
    go_region_held3 (fun V => V.cell? ⟨p, 0, none⟩ = some (.int .i64 s.pr) ∧ V.cell? ⟨p, 1, none⟩ = some (.bool s.la) ∧ V.cell? ⟨p, 2, none⟩ = some (.int .i64 s.es) ∧ V.cell? ⟨p, 4, none⟩ = some (.int .i64 x.pr)) (first | go_keep | exact ⟨x0, x1, x2, x4⟩)
      (first
        | (go_at_call 42; refine (HG.out _).mono ?_; rintro e w3 ⟨rfl, a3⟩; have A3 := hideIt ((After.rfl.draws 1).trans a3); obtain ⟨x0, x1, x2, x3, x4, x5, x6, y3, y4, y5, y6⟩ := HC.out _ A3.out; clear a3 x3 x5 x6 y3 y4 y5 y6))
    clear x0 x1 x2 x4 c0 c1 c2 c4 c5 f4 f5 HG
    obtain ⟨c0, c1, c2, -, c4, c5, -, -, f4, f5, -⟩ := HC.out _ A3.out
    have hw : IntKind.i64.wrap (x.si + 1) = x.si + 1 := IntWalk.i64_in _ (by omega)
    go_wp2_with fail
    go_quiet (fail)
    go_wp2
    go_ret
    exact ⟨rfl, HA.out _ A3.out _ _ rfl⟩
  · rw [decide_eq_true g] at HG
    have hA : ∀ V, After w V → ∀ n w', w' = (((V.setCell ⟨p, 5, none⟩ (.int .i64 (x.si + 1))).drewN n).setCell ⟨p, 4, none⟩ (.int .i64 (x.pr + 1))).setCell ⟨p, 5, none⟩ (.int .i64 0) → Al w' p s (mvS s x true) ∧ But (One p) w w' := by
      intro V a n w' e
      subst e
      have h1 : ((V.setCell ⟨p, 5, none⟩ (.int .i64 (x.si + 1))).drewN n).heap[p]? = some (.cells (alC s { x with si := x.si + 1 }) 57 (0, 0)) := blk_put (HX.out.after a).at0 5 _
      exact ⟨⟨by rw [e2]; exact blk_put (blk_put h1 4 _) 5 _, HX.out.may, hst⟩, (((a.but.trans (but_one V p 5 _)).draws n).trans (but_one _ p 4 _)).trans (but_one _ p 5 _)⟩
    have HA := hideIt hA
    rw [e1]
    clear g e1 e2 hst hA
    go_enter Try.func41, Try.ntmps41
    go_wp2_with fail
    go_region_held3 (fun V => V.cell? ⟨p, 0, none⟩ = some (.int .i64 s.pr) ∧ V.cell? ⟨p, 1, none⟩ = some (.bool s.la) ∧ V.cell? ⟨p, 2, none⟩ = some (.int .i64 s.es) ∧ V.cell? ⟨p, 4, none⟩ = some (.int .i64 x.pr)) (first | go_keep | exact ⟨x0, x1, x2, x4⟩)
      (first
        | (go_at_call 42; refine (HG.out _).mono ?_; rintro e w3 ⟨rfl, a3⟩; have A3 := hideIt ((After.rfl.draws 1).trans a3); obtain ⟨x0, x1, x2, x3, x4, x5, x6, y3, y4, y5, y6⟩ := HC.out _ A3.out; clear a3 x3 x5 x6 y3 y4 y5 y6))
    clear x0 x1 x2 x4 c0 c1 c2 c4 c5 f4 f5 HG
    obtain ⟨c0, c1, c2, -, c4, c5, -, -, f4, f5, -⟩ := HC.out _ A3.out
    have hw : IntKind.i64.wrap (x.si + 1) = x.si + 1 := IntWalk.i64_in _ (by omega)
    have hw1 : IntKind.i64.wrap (x.pr + 1) = x.pr + 1 := IntWalk.i64_in _ (by omega)
    go_wp2_with fail
    go_quiet (fail)
    go_wp2
    go_ret
    exact ⟨rfl, HA.out _ A3.out _ _ rfl⟩
theorem move_any {w : World} {p : Nat} {s : Sp} {x : As} (h : Al w p s x) (a : Bool) : Calls Try.prog 34 #[Ptr p, .bool a] w fun e w' => e = .returned (.int .i64 (mvE s x a)) ∧ Al w' p s (mvS s x a) ∧ But (One p) w w' := by
  have hst := mv_stands h.may h.st a
  have hph := h.st.ph
  obtain ⟨c0, c1, c2, c3, c4, c5, c6, f3, f4, f5, f6⟩ := cells_of h.at0
  clear c4 c5 c6 f3 f4 f5 f6
  cases a
  · by_cases e1 : x.ph = 1
    · cases hl : s.la
      · have q1 : mvE s x false = 2 := by unfold mvE; rw [if_neg (by decide), if_pos e1]
        have q2 : mvS s x false = { x with ph := 0, pr := 0, si := 0 } := by unfold mvS; rw [if_neg (by decide), if_pos e1, if_neg (by rw [hl]; decide)]
        rw [q2] at hst ⊢
        rw [q1]
        have H := hideIt (fall_quiet h hst)
        rw [e1] at c3
        rw [hl] at c1
        clear h hst hph e1 hl q1 q2
        go_enter Try.func34, Try.ntmps34
        go_wp2_with fail
        refine H.out.mono ?_
        rintro e w' ⟨rfl, h1, h2⟩
        go_wp2
        go_ret
        exact ⟨rfl, h1, h2⟩
      · have q1 : mvE s x false = 2 := by unfold mvE; rw [if_neg (by decide), if_pos e1]
        have q2 : mvS s x false = { x with ph := 3, si := 0 } := by unfold mvS; rw [if_neg (by decide), if_pos e1, if_pos hl]
        rw [q2] at hst ⊢
        rw [q1]
        have H := hideIt (fall_latched h hst)
        rw [e1] at c3
        rw [hl] at c1
        clear h hst hph e1 hl q1 q2
        go_enter Try.func34, Try.ntmps34
        go_wp2_with fail
        refine H.out.mono ?_
        rintro e w' ⟨rfl, h1, h2⟩
        go_wp2
        go_ret
        exact ⟨rfl, h1, h2⟩
    · by_cases e2 : x.ph = 2
      · have q1 : mvE s x false = 2 := by unfold mvE; rw [if_neg (by decide), if_neg e1, if_pos e2]
        have q2 : mvS s x false = { x with ph := 0, pr := 0, si := 0 } := by unfold mvS; rw [if_neg (by decide), if_neg e1, if_pos e2]
        rw [q2] at hst ⊢
        rw [q1]
        have H := hideIt (fall_quiet h hst)
        rw [e2] at c3
        clear h hst hph e1 e2 q1 q2
        go_enter Try.func34, Try.ntmps34
        go_wp2_with fail
        refine H.out.mono ?_
        rintro e w' ⟨rfl, h1, h2⟩
        go_wp2
        go_ret
        exact ⟨rfl, h1, h2⟩
      · have q1 : mvE s x false = 0 := by unfold mvE; rw [if_neg (by decide), if_neg e1, if_neg e2]
        have q2 : mvS s x false = x := by unfold mvS; rw [if_neg (by decide), if_neg e1, if_neg e2]
        rw [q2, q1]
        have HX := hideIt h
        have b1 : (x.ph == 1) = false := by simpa using e1
        have b2 : (x.ph == 2) = false := by simpa using e2
        clear h hst hph e1 e2 q1 q2
        generalize x.ph = ph at *
        go_enter Try.func34, Try.ntmps34
        go_wp2
        go_ret
        exact ⟨rfl, HX.out, But.rfl⟩
  · by_cases e0 : x.ph = 0 ∨ x.ph = 3
    · have q1 : mvE s x true = 1 := by unfold mvE; rw [if_pos rfl, if_pos e0]
      have q2 : mvS s x true = { x with ph := 1, pr := s.pr, si := 0 } := by unfold mvS; rw [if_pos rfl, if_pos e0]
      rw [q2] at hst ⊢
      rw [q1]
      have H := hideIt (raise_any h hst)
      clear h hst hph q1 q2
      rcases e0 with e0 | e0
      all_goals
        rw [e0] at c3
        clear e0
        go_enter Try.func34, Try.ntmps34
        go_wp2_with fail
        refine H.out.mono ?_
        rintro e w' ⟨rfl, h1, h2⟩
        go_wp2
        go_ret
        exact ⟨rfl, h1, h2⟩
    · by_cases e1 : x.ph = 1
      · have H := hideIt (last_any h e1)
        rw [e1] at c3
        clear h hst hph e0 e1
        go_enter Try.func34, Try.ntmps34
        go_wp2_with fail
        refine H.out.mono ?_
        rintro e w' ⟨rfl, h1, h2⟩
        go_wp2
        go_ret
        exact ⟨rfl, h1, h2⟩
      · have e2 : x.ph = 2 := by omega
        have q1 : mvE s x true = 0 := by unfold mvE; rw [if_pos rfl, if_neg e0, if_neg e1]
        have q2 : mvS s x true = x := by unfold mvS; rw [if_pos rfl, if_neg e0, if_neg e1]
        rw [q2, q1]
        have HX := hideIt h
        rw [e2] at c3
        clear h hst hph e0 e1 e2 q1 q2
        go_enter Try.func34, Try.ntmps34
        go_wp2
        go_ret
        exact ⟨rfl, HX.out, But.rfl⟩
end Go.Proofs.Ythggkpmhcdmalaa
