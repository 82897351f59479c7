/-
  The document's Step, where nothing is paused.
-/
import Derived.Test.YthggkpmhcdmalaaAlS
import Derived.Test.YthggkpmhcdmalaaAlE
import Derived.Deep.RegionHeld3
import Derived.BigQuiet
namespace Go.Proofs.Ythggkpmhcdmalaa
open Go.RowKit
set_option maxRecDepth 8000
set_option maxHeartbeats 8000000 in
theorem refStep_0 {w : World} {p : Nat} {s : Sp} {x : As} (h : Rl w p s x) (hpa : x.pa = 0) (act : Bool) : Calls Try.prog 28 #[Ptr p, .bool act] w fun e w' => ∃ v, e = .returned (.tuple #[v, .int .i64 0]) ∧ OInts w' w.heap.size v (stE s x act) ∧ Rl w' p s (stS s x act) ∧ But (One p) w w' := by
  have HX := hideIt h
  have HP := hideIt h.lt
  have hp0 := pr_no h.may
  have hes : s.es ≤ 10000 := h.may.2.2.2
  have bx := h.st.2.1
  have hst := mv_stands h.may (wt_stands h.st) act
  have HG := hideIt (fun U => refGrows_any U s (wtS x).pr)
  have SI := hideIt (show (wtS x).ph = 1 → s.Grows (wtS x).pr → (wtS x).si + 1 ≤ s.es from fun hp g => by
    have g1 := g.1
    rcases (wt_stands h.st).2.2 with q | q | q | q
    · omega
    · have := q.2.2
      unfold Sp.Lasts at this
      omega
    · omega
    · omega)
  have HE1 := hideIt (evs_len (wtE x))
  obtain ⟨c0, c1, c2, c3, c4, c5, c6, f3, f4, f5, f6⟩ := cells_of h.at0
  clear h
  unfold stE stS
  have RY := hideIt (show Rl w p s (wtS x) by rw [show wtS x = x by unfold wtS; rw [if_pos hpa]]; exact HX.out)
  have OV := hideIt (show OInts w w.heap.size (.slice none 0 0) (evs (wtE x)) by rw [show evs (wtE x) = [] by unfold wtE; rw [if_neg (by omega)]; rfl]; exact own_nil _ _)
  have BV := hideIt (show But (One p) w w from But.rfl)
  have hg : ¬ 0 < x.pa := by omega
  clear hpa bx c1 c2 c3 c4 c5 f3 f4 f5 f6
  unfold Sp.v at HG
  generalize evs (wtE x) = E1 at *
  generalize wtS x = y at *
  go_enter Try.func28, Try.ntmps28
  go_upto_region 8 with fail
  clear c0 c6 hg
  obtain ⟨c0, c1, c2, c3, c4, c5, c6, f3, f4, f5, f6⟩ := cells_of RY.out.at0
  have HC := hideIt (fun U (a : After w U) => cells_of (RY.out.after a).at0)
  cases act
  · by_cases e1 : y.ph = 1
    · have E1P := hideIt e1
      cases hl : s.la
      · skip
        have q1 : mvE s y false = 2 := by unfold mvE; rw [if_neg (by decide), if_pos e1]
        have q2 : mvS s y false = { y with ph := 0, pr := 0, si := 0 } := by unfold mvS; rw [if_neg (by decide), if_pos e1, if_neg (by rw [hl]; decide)]
        have QQ := hideIt (And.intro q1 q2)
        rw [q2] at hst
        rw [e1] at c3
        clear hst q1 q2 e1
        go_wp2_with fail
        go_quiet (fail)
        clear c0 c1 c2 c3 c4 c5 c6 f3 f4 f5 f6
        obtain ⟨c0, c1, c2, c3, c4, c5, c6, f3, f4, f5, f6⟩ := HC.out _ (After.rfl.draws nq)
        rw [E1P.out] at c3
        rw [hl] at c1
        have HQ := hideIt (refQuiet_any (RY.out.after (After.rfl.draws nq)))
        go_wp2_with fail
        refine HQ.out.mono ?_
        rintro e V1 ⟨⟨u, rfl⟩, x1, b2⟩
        have b0 : But (One p) w V1 := (But.rfl.draws nq).trans b2
        have b1 : But (One p) w V1 := BV.out.trans b0
        have HV1 := hideIt (And.intro x1 (And.intro b1 (own_but OV.out b0 (fun k hk t => by have e : k = p := t; have := (own_lt OV.out hk).1; have := HP.out; omega))))
        clear x1 b0 b1 b2 HQ
        go_wp2_with (at_builtin; refine app_ints rfl (.tmp 187) (.tmp 188) rfl w.heap.size _ E1 rfl (own_after HV1.out.2.2 (After.rfl.alloc _)) (some ⟨V1.heap.size, 0, none⟩) 1 1 [2] rfl (lit_irow (heap_alloc_new V1 _) rfl rfl) (fun h => by cases h) (by have := HE1.out; omega) (Nat.le_trans HV1.out.2.1.size ((After.rfl.alloc _).size)) ?_)
        intro v9 w9 o9 b9
        have b8 : But (From w.heap.size) V1 w9 := (After.rfl.alloc _).but.then b9 (fun i hi t => (own_lt HV1.out.2.2 t).1)
        have x9 := HV1.out.1.but b8 (fun t => by have e : w.heap.size ≤ p := t; have := HP.out; omega)
        have bb : But (One p) w w9 := HV1.out.2.1.then b8 (fun i hi t => by have e : w.heap.size ≤ i := t; omega)
        have HF := hideIt (And.intro o9 (And.intro x9 bb))
        clear o9 b9 b8 x9 bb HV1
        go_wp2
        go_ret2
        exact ⟨_, rfl, by rw [QQ.out.1, evs_yes (by decide)]; exact HF.out.1, by rw [QQ.out.2]; exact HF.out.2.1, HF.out.2.2⟩
      · skip
        have q1 : mvE s y false = 2 := by unfold mvE; rw [if_neg (by decide), if_pos e1]
        have q2 : mvS s y false = { y with ph := 3, si := 0 } := by unfold mvS; rw [if_neg (by decide), if_pos e1, if_pos hl]
        have QQ := hideIt (And.intro q1 q2)
        rw [q2] at hst
        have HST := hideIt hst
        rw [e1] at c3
        clear hst q1 q2 e1
        go_wp2_with fail
        go_quiet (fail)
        clear c0 c1 c2 c3 c4 c5 c6 f3 f4 f5 f6
        obtain ⟨V1, hV1⟩ : ∃ V1, V1 = ((w.drewN nq).setCell ⟨p, 3, none⟩ (.int .i64 3)).setCell ⟨p, 5, none⟩ (.int .i64 0) := ⟨_, rfl⟩
        have x1 : Rl V1 p s { y with ph := 3, si := 0 } := by rw [hV1]; exact ⟨blk_put (blk_put (RY.out.after (After.rfl.draws nq)).at0 3 _) 5 _, RY.out.may, HST.out⟩
        have b0 : But (One p) w V1 := by rw [hV1]; exact ((But.rfl.draws nq).trans (but_one _ p 3 _)).trans (but_one _ p 5 _)
        have b1 : But (One p) w V1 := BV.out.trans b0
        have HV1 := hideIt (And.intro x1 (And.intro b1 (own_but OV.out b0 (fun k hk t => by have e : k = p := t; have := (own_lt OV.out hk).1; have := HP.out; omega))))
        clear x1 b0 b1
        obtain ⟨c0, c1, c2, c3, c4, c5, c6, f3, f4, f5, f6⟩ := HC.out _ (After.rfl.draws nq)
        rw [E1P.out] at c3
        rw [hl] at c1
        go_upto_region 22 with fail
        rw [← hV1]
        clear hV1
        go_wp2_with (at_builtin; refine app_ints rfl (.tmp 163) (.tmp 164) rfl w.heap.size _ E1 rfl (own_after HV1.out.2.2 (After.rfl.alloc _)) (some ⟨V1.heap.size, 0, none⟩) 1 1 [2] rfl (lit_irow (heap_alloc_new V1 _) rfl rfl) (fun h => by cases h) (by have := HE1.out; omega) (Nat.le_trans HV1.out.2.1.size ((After.rfl.alloc _).size)) ?_)
        intro v9 w9 o9 b9
        have b8 : But (From w.heap.size) V1 w9 := (After.rfl.alloc _).but.then b9 (fun i hi t => (own_lt HV1.out.2.2 t).1)
        have x9 := HV1.out.1.but b8 (fun t => by have e : w.heap.size ≤ p := t; have := HP.out; omega)
        have bb : But (One p) w w9 := HV1.out.2.1.then b8 (fun i hi t => by have e : w.heap.size ≤ i := t; omega)
        have HF := hideIt (And.intro o9 (And.intro x9 bb))
        clear o9 b9 b8 x9 bb HV1
        go_wp2
        go_ret2
        exact ⟨_, rfl, by rw [QQ.out.1, evs_yes (by decide)]; exact HF.out.1, by rw [QQ.out.2]; exact HF.out.2.1, HF.out.2.2⟩
    · by_cases e2 : y.ph = 2
      · have E1P := hideIt e2
        have q1 : mvE s y false = 2 := by unfold mvE; rw [if_neg (by decide), if_neg e1, if_pos e2]
        have q2 : mvS s y false = { y with ph := 0, pr := 0, si := 0 } := by unfold mvS; rw [if_neg (by decide), if_neg e1, if_pos e2]
        have QQ := hideIt (And.intro q1 q2)
        rw [q2] at hst
        rw [e2] at c3
        clear hst q1 q2 e1 e2
        go_wp2_with fail
        go_quiet (fail)
        clear c0 c1 c2 c3 c4 c5 c6 f3 f4 f5 f6
        obtain ⟨c0, c1, c2, c3, c4, c5, c6, f3, f4, f5, f6⟩ := HC.out _ (After.rfl.draws nq)
        rw [E1P.out] at c3
        have HQ := hideIt (refQuiet_any (RY.out.after (After.rfl.draws nq)))
        go_wp2_with fail
        refine HQ.out.mono ?_
        rintro e V1 ⟨⟨u, rfl⟩, x1, b2⟩
        have b0 : But (One p) w V1 := (But.rfl.draws nq).trans b2
        have b1 : But (One p) w V1 := BV.out.trans b0
        have HV1 := hideIt (And.intro x1 (And.intro b1 (own_but OV.out b0 (fun k hk t => by have e : k = p := t; have := (own_lt OV.out hk).1; have := HP.out; omega))))
        clear x1 b0 b1 b2 HQ
        go_wp2_with (at_builtin; refine app_ints rfl (.tmp 187) (.tmp 188) rfl w.heap.size _ E1 rfl (own_after HV1.out.2.2 (After.rfl.alloc _)) (some ⟨V1.heap.size, 0, none⟩) 1 1 [2] rfl (lit_irow (heap_alloc_new V1 _) rfl rfl) (fun h => by cases h) (by have := HE1.out; omega) (Nat.le_trans HV1.out.2.1.size ((After.rfl.alloc _).size)) ?_)
        intro v9 w9 o9 b9
        have b8 : But (From w.heap.size) V1 w9 := (After.rfl.alloc _).but.then b9 (fun i hi t => (own_lt HV1.out.2.2 t).1)
        have x9 := HV1.out.1.but b8 (fun t => by have e : w.heap.size ≤ p := t; have := HP.out; omega)
        have bb : But (One p) w w9 := HV1.out.2.1.then b8 (fun i hi t => by have e : w.heap.size ≤ i := t; omega)
        have HF := hideIt (And.intro o9 (And.intro x9 bb))
        clear o9 b9 b8 x9 bb HV1
        go_wp2
        go_ret2
        exact ⟨_, rfl, by rw [QQ.out.1, evs_yes (by decide)]; exact HF.out.1, by rw [QQ.out.2]; exact HF.out.2.1, HF.out.2.2⟩
      · skip
        have q1 : mvE s y false = 0 := by unfold mvE; rw [if_neg (by decide), if_neg e1, if_neg e2]
        have q2 : mvS s y false = y := by unfold mvS; rw [if_neg (by decide), if_neg e1, if_neg e2]
        have QQ := hideIt (And.intro q1 q2)
        rw [q2] at hst
        have b1 : (y.ph == 1) = false := by simpa using e1
        have b2 : (y.ph == 2) = false := by simpa using e2
        clear hst q1 q2 e1 e2
        go_wp2_with fail
        go_quiet (fail)
        clear c0 c1 c2 c3 c4 c5 c6 f3 f4 f5 f6
        obtain ⟨c0, c1, c2, c3, c4, c5, c6, f3, f4, f5, f6⟩ := HC.out _ (After.rfl.draws nq)
        go_wp2
        go_ret2
        exact ⟨_, rfl, by rw [QQ.out.1, evs_no, List.append_nil]; exact (own_after OV.out (After.rfl.draws _)), by rw [QQ.out.2]; exact RY.out.after (After.rfl.draws _), But.draws BV.out _⟩
  · by_cases e0 : y.ph = 0
    · skip
      have q1 : mvE s y true = 1 := by unfold mvE; rw [if_pos rfl, if_pos (.inl e0)]
      have q2 : mvS s y true = { y with ph := 1, pr := s.pr, si := 0 } := by unfold mvS; rw [if_pos rfl, if_pos (.inl e0)]
      have QQ := hideIt (And.intro q1 q2)
      rw [q2] at hst
      obtain ⟨V1, hV1⟩ : ∃ V1, V1 = ((w.setCell ⟨p, 3, none⟩ (.int .i64 1)).setCell ⟨p, 4, none⟩ (.int .i64 s.pr)).setCell ⟨p, 5, none⟩ (.int .i64 0) := ⟨_, rfl⟩
      have x1 : Rl V1 p s { y with ph := 1, pr := s.pr, si := 0 } := by rw [hV1]; exact ⟨blk_put (blk_put (blk_put RY.out.at0 3 _) 4 _) 5 _, RY.out.may, hst⟩
      have b0 : But (One p) w V1 := by rw [hV1]; exact ((but_one w p 3 _).trans (but_one _ p 4 _)).trans (but_one _ p 5 _)
      have b1 : But (One p) w V1 := BV.out.trans b0
      have HV1 := hideIt (And.intro x1 (And.intro b1 (own_but OV.out b0 (fun k hk t => by have e : k = p := t; have := (own_lt OV.out hk).1; have := HP.out; omega))))
      rw [e0] at c3
      clear hst q1 q2 e0 x1 b0 b1
      go_upto_region 12 with fail
      rw [← hV1]
      clear hV1
      go_wp2_with (at_builtin; refine app_ints rfl (.tmp 76) (.tmp 77) rfl w.heap.size _ E1 rfl (own_after HV1.out.2.2 (After.rfl.alloc _)) (some ⟨V1.heap.size, 0, none⟩) 1 1 [1] rfl (lit_irow (heap_alloc_new V1 _) rfl rfl) (fun h => by cases h) (by have := HE1.out; omega) (Nat.le_trans HV1.out.2.1.size ((After.rfl.alloc _).size)) ?_)
      intro v9 w9 o9 b9
      have b8 : But (From w.heap.size) V1 w9 := (After.rfl.alloc _).but.then b9 (fun i hi t => (own_lt HV1.out.2.2 t).1)
      have x9 := HV1.out.1.but b8 (fun t => by have e : w.heap.size ≤ p := t; have := HP.out; omega)
      have bb : But (One p) w w9 := HV1.out.2.1.then b8 (fun i hi t => by have e : w.heap.size ≤ i := t; omega)
      have HF := hideIt (And.intro o9 (And.intro x9 bb))
      clear o9 b9 b8 x9 bb HV1
      go_wp2
      go_ret2
      exact ⟨_, rfl, by rw [QQ.out.1, evs_yes (by decide)]; exact HF.out.1, by rw [QQ.out.2]; exact HF.out.2.1, HF.out.2.2⟩
    · have n0 := e0
      clear e0
      by_cases e0 : y.ph = 3
      · skip
        have q1 : mvE s y true = 1 := by unfold mvE; rw [if_pos rfl, if_pos (.inr e0)]
        have q2 : mvS s y true = { y with ph := 1, pr := s.pr, si := 0 } := by unfold mvS; rw [if_pos rfl, if_pos (.inr e0)]
        have QQ := hideIt (And.intro q1 q2)
        rw [q2] at hst
        obtain ⟨V1, hV1⟩ : ∃ V1, V1 = ((w.setCell ⟨p, 3, none⟩ (.int .i64 1)).setCell ⟨p, 4, none⟩ (.int .i64 s.pr)).setCell ⟨p, 5, none⟩ (.int .i64 0) := ⟨_, rfl⟩
        have x1 : Rl V1 p s { y with ph := 1, pr := s.pr, si := 0 } := by rw [hV1]; exact ⟨blk_put (blk_put (blk_put RY.out.at0 3 _) 4 _) 5 _, RY.out.may, hst⟩
        have b0 : But (One p) w V1 := by rw [hV1]; exact ((but_one w p 3 _).trans (but_one _ p 4 _)).trans (but_one _ p 5 _)
        have b1 : But (One p) w V1 := BV.out.trans b0
        have HV1 := hideIt (And.intro x1 (And.intro b1 (own_but OV.out b0 (fun k hk t => by have e : k = p := t; have := (own_lt OV.out hk).1; have := HP.out; omega))))
        rw [e0] at c3
        clear hst q1 q2 e0 x1 b0 b1
        go_upto_region 12 with fail
        rw [← hV1]
        clear hV1
        go_wp2_with (at_builtin; refine app_ints rfl (.tmp 76) (.tmp 77) rfl w.heap.size _ E1 rfl (own_after HV1.out.2.2 (After.rfl.alloc _)) (some ⟨V1.heap.size, 0, none⟩) 1 1 [1] rfl (lit_irow (heap_alloc_new V1 _) rfl rfl) (fun h => by cases h) (by have := HE1.out; omega) (Nat.le_trans HV1.out.2.1.size ((After.rfl.alloc _).size)) ?_)
        intro v9 w9 o9 b9
        have b8 : But (From w.heap.size) V1 w9 := (After.rfl.alloc _).but.then b9 (fun i hi t => (own_lt HV1.out.2.2 t).1)
        have x9 := HV1.out.1.but b8 (fun t => by have e : w.heap.size ≤ p := t; have := HP.out; omega)
        have bb : But (One p) w w9 := HV1.out.2.1.then b8 (fun i hi t => by have e : w.heap.size ≤ i := t; omega)
        have HF := hideIt (And.intro o9 (And.intro x9 bb))
        clear o9 b9 b8 x9 bb HV1
        go_wp2
        go_ret2
        exact ⟨_, rfl, by rw [QQ.out.1, evs_yes (by decide)]; exact HF.out.1, by rw [QQ.out.2]; exact HF.out.2.1, HF.out.2.2⟩
      · have n3 : ¬ (y.ph = 0 ∨ y.ph = 3) := by omega
        by_cases e1 : y.ph = 1
        · have E1P := hideIt e1
          have LW := last_ways RY.out.may RY.out.st e1
          rw [e1] at c3
          clear e1 n0 e0 n3
          rcases LW with ⟨g, q1, q2⟩ | ⟨g, l0, l1, q1, q2⟩ | ⟨g, l0, l00, l1, r0, r1, q1, q2⟩
          · have QQ := hideIt (And.intro q1 q2)
            rw [decide_eq_false g] at HG
            clear hst q1 q2 g
            go_wp2_with fail
            go_region_held3 (fun U => U.cell? ⟨p, 0, none⟩ = some (.int .i64 s.pr) ∧ U.cell? ⟨p, 1, none⟩ = some (.bool s.la) ∧ U.cell? ⟨p, 2, none⟩ = some (.int .i64 s.es) ∧ U.cell? ⟨p, 3, none⟩ = some (.int .i64 1) ∧ U.cell? ⟨p, 4, none⟩ = some (.int .i64 y.pr)) (first | go_keep | exact ⟨x0, x1, x2, x3, x4⟩)
              (first
                | (go_at_call 38; refine (HG.out _).mono ?_; rintro e V3 ⟨rfl, a3⟩; have A3 := hideIt ((After.rfl.draws 1).trans a3); obtain ⟨x0, x1, x2, x3, x4, x5, x6, y3, y4, y5, y6⟩ := HC.out _ A3.out; rw [E1P.out] at x3; clear a3 x5 x6 y3 y4 y5 y6))
            clear x0 x1 x2 x3 x4 c0 c1 c2 c3 c4 c5 c6 f3 f4 f5 f6 HG
            obtain ⟨c0, c1, c2, c3, c4, c5, c6, f3, f4, f5, f6⟩ := HC.out _ A3.out
            rw [E1P.out] at c3
            go_wp2
            go_ret2
            exact ⟨_, rfl, by rw [QQ.out.1, evs_no, List.append_nil]; exact own_after OV.out A3.out, by rw [QQ.out.2]; exact RY.out.after A3.out, BV.out.trans A3.out.but⟩
          · have QQ := hideIt (And.intro q1 q2)
            rw [q2] at hst
            rw [decide_eq_true g] at HG
            have HST := hideIt hst
            have hw : IntKind.i64.wrap (y.si + 1) = y.si + 1 := IntWalk.i64_in _ (by have := hes; omega)
            have hne : (y.si + 1 == s.es) = false := by simp; omega
            clear hst q1 q2 g
            go_wp2_with fail
            go_region_held3 (fun U => U.cell? ⟨p, 0, none⟩ = some (.int .i64 s.pr) ∧ U.cell? ⟨p, 1, none⟩ = some (.bool s.la) ∧ U.cell? ⟨p, 2, none⟩ = some (.int .i64 s.es) ∧ U.cell? ⟨p, 3, none⟩ = some (.int .i64 1) ∧ U.cell? ⟨p, 4, none⟩ = some (.int .i64 y.pr)) (first | go_keep | exact ⟨x0, x1, x2, x3, x4⟩)
              (first
                | (go_at_call 38; refine (HG.out _).mono ?_; rintro e V3 ⟨rfl, a3⟩; have A3 := hideIt ((After.rfl.draws 1).trans a3); obtain ⟨x0, x1, x2, x3, x4, x5, x6, y3, y4, y5, y6⟩ := HC.out _ A3.out; rw [E1P.out] at x3; clear a3 x5 x6 y3 y4 y5 y6))
            clear x0 x1 x2 x3 x4 c0 c1 c2 c3 c4 c5 c6 f3 f4 f5 f6 HG
            obtain ⟨c0, c1, c2, c3, c4, c5, c6, f3, f4, f5, f6⟩ := HC.out _ A3.out
            rw [E1P.out] at c3
            go_wp2_with fail
            go_quiet (fail)
            go_wp2
            go_ret2
            exact ⟨_, rfl, by rw [QQ.out.1, evs_no, List.append_nil]; exact own_but OV.out ((A3.out.but.trans (but_one V3 p 5 _)).draws nq) (fun k hk t => by have e : k = p := t; have := (own_lt OV.out hk).1; have := HP.out; omega), by rw [QQ.out.2]; exact ⟨blk_put (RY.out.after A3.out).at0 5 _, RY.out.may, HST.out⟩, BV.out.trans ((A3.out.but.trans (but_one V3 p 5 _)).draws nq)⟩
          · have QQ := hideIt (And.intro q1 q2)
            rw [q2] at hst
            rw [decide_eq_true g] at HG
            have HST := hideIt hst
            have hw : IntKind.i64.wrap (y.si + 1) = y.si + 1 := IntWalk.i64_in _ (by omega)
            have hw2 : IntKind.i64.wrap (y.pr + 1) = y.pr + 1 := IntWalk.i64_in _ (by omega)
            have hne : (y.si + 1 == s.es) = true := by have := SI.out E1P.out g; simp; omega
            clear hst q1 q2 g
            go_wp2_with fail
            go_region_held3 (fun U => U.cell? ⟨p, 0, none⟩ = some (.int .i64 s.pr) ∧ U.cell? ⟨p, 1, none⟩ = some (.bool s.la) ∧ U.cell? ⟨p, 2, none⟩ = some (.int .i64 s.es) ∧ U.cell? ⟨p, 3, none⟩ = some (.int .i64 1) ∧ U.cell? ⟨p, 4, none⟩ = some (.int .i64 y.pr)) (first | go_keep | exact ⟨x0, x1, x2, x3, x4⟩)
              (first
                | (go_at_call 38; refine (HG.out _).mono ?_; rintro e V3 ⟨rfl, a3⟩; have A3 := hideIt ((After.rfl.draws 1).trans a3); obtain ⟨x0, x1, x2, x3, x4, x5, x6, y3, y4, y5, y6⟩ := HC.out _ A3.out; rw [E1P.out] at x3; clear a3 x5 x6 y3 y4 y5 y6))
            clear x0 x1 x2 x3 x4 c0 c1 c2 c3 c4 c5 c6 f3 f4 f5 f6 HG
            obtain ⟨c0, c1, c2, c3, c4, c5, c6, f3, f4, f5, f6⟩ := HC.out _ A3.out
            rw [E1P.out] at c3
            go_wp2_with fail
            go_quiet (fail)
            obtain ⟨V1, hV1⟩ : ∃ V1, V1 = ((((V3.setCell ⟨p, 5, none⟩ (.int .i64 (y.si + 1))).drewN nq).setCell ⟨p, 5, none⟩ (.int .i64 0)).setCell ⟨p, 4, none⟩ (.int .i64 (y.pr + 1))) := ⟨_, rfl⟩
            have h1 : ((V3.setCell ⟨p, 5, none⟩ (.int .i64 (y.si + 1))).drewN nq).heap[p]? = some (.cells (alC s { y with si := y.si + 1 }) 64 (0, 0)) := blk_put (RY.out.after A3.out).at0 5 _
            have x1 : Rl V1 p s { y with pr := y.pr + 1, si := 0 } := by rw [hV1]; exact ⟨blk_put (blk_put h1 5 _) 4 _, RY.out.may, HST.out⟩
            have b0 : But (One p) w V1 := by rw [hV1]; exact (((A3.out.but.trans (but_one V3 p 5 _)).draws nq).trans (but_one _ p 5 _)).trans (but_one _ p 4 _)
            have b1 : But (One p) w V1 := BV.out.trans b0
            have HV1 := hideIt (And.intro x1 (And.intro b1 (own_but OV.out b0 (fun k hk t => by have e : k = p := t; have := (own_lt OV.out hk).1; have := HP.out; omega))))
            clear x1 b0 b1 h1
            go_upto_region 18 with fail
            rw [← hV1]
            clear hV1
            go_wp2_with (at_builtin; refine app_ints rfl (.tmp 134) (.tmp 135) rfl w.heap.size _ E1 rfl (own_after HV1.out.2.2 (After.rfl.alloc _)) (some ⟨V1.heap.size, 0, none⟩) 1 1 [3] rfl (lit_irow (heap_alloc_new V1 _) rfl rfl) (fun h => by cases h) (by have := HE1.out; omega) (Nat.le_trans HV1.out.2.1.size ((After.rfl.alloc _).size)) ?_)
            intro v9 w9 o9 b9
            have b8 : But (From w.heap.size) V1 w9 := (After.rfl.alloc _).but.then b9 (fun i hi t => (own_lt HV1.out.2.2 t).1)
            have x9 := HV1.out.1.but b8 (fun t => by have e : w.heap.size ≤ p := t; have := HP.out; omega)
            have bb : But (One p) w w9 := HV1.out.2.1.then b8 (fun i hi t => by have e : w.heap.size ≤ i := t; omega)
            have HF := hideIt (And.intro o9 (And.intro x9 bb))
            clear o9 b9 b8 x9 bb HV1
            go_wp2
            go_ret2
            exact ⟨_, rfl, by rw [QQ.out.1, evs_yes (by decide)]; exact HF.out.1, by rw [QQ.out.2]; exact HF.out.2.1, HF.out.2.2⟩
        · have e2 : y.ph = 2 := by have := RY.out.st.ph; omega
          have q1 : mvE s y true = 0 := by unfold mvE; rw [if_pos rfl, if_neg n3, if_neg e1]
          have q2 : mvS s y true = y := by unfold mvS; rw [if_pos rfl, if_neg n3, if_neg e1]
          have QQ := hideIt (And.intro q1 q2)
          rw [q2] at hst
          rw [e2] at c3
          have E1P := hideIt e2
          clear hst q1 q2 e1 e2 n0 n3 e0
          go_wp2_with fail
          go_quiet (fail)
          clear c0 c1 c2 c3 c4 c5 c6 f3 f4 f5 f6
          obtain ⟨c0, c1, c2, c3, c4, c5, c6, f3, f4, f5, f6⟩ := HC.out _ (After.rfl.draws nq)
          rw [E1P.out] at c3
          go_wp2
          go_ret2
          exact ⟨_, rfl, by rw [QQ.out.1, evs_no, List.append_nil]; exact (own_after OV.out (After.rfl.draws _)), by rw [QQ.out.2]; exact RY.out.after (After.rfl.draws _), But.draws BV.out _⟩
end Go.Proofs.Ythggkpmhcdmalaa
