/-
  FilterForgets walked.
-/
import Derived.Test.YtgapnimicaopcaaB04
import Derived.Laws.StructEq
namespace Go.Proofs.Ytgapnimicaopcaa
open Go.RowKit
set_option maxRecDepth 8000
/-- What may has left: a filter in block g, steps. -/
structure Mde (w0 : World) (g : Nat) (c : Cf) (v : Value) (xs : List Stp) (w : World) : Prop where
  at0 : w.heap[g]? = some (.cells #[.int .i64 c.k, .int .i64 c.n, .int .i64 c.st] 23 (0, 0))
  own : OSts w (g + 1) v xs
  all : ∀ x ∈ xs, x.Own w (g + 1)
  fine : Fine xs
  few : xs.length ≤ 60
  eight : ∀ x ∈ xs, x.l.length ≤ 8
  aft : After w0 w
theorem mde_store {w0 w1 w2 : World} {c : Cf} {v : Value} {xs : List Stp} {x0 x1 x2 : Value} {g : Nat} (hg : w0.heap.size = g) (h : w1.heap[g]? = some (.cells #[x0, x1, x2] 23 (0, 0))) (a1 : After w0 w1) (own : OSts w2 w1.heap.size v xs) (hall : ∀ x ∈ xs, x.Own w2 w1.heap.size) (hf : Fine xs) (h60 : xs.length ≤ 60) (h8 : ∀ x ∈ xs, x.l.length ≤ 8) (a2 : After w1 w2) : Mde w0 g c v xs (((w2.setCell ⟨g, 0, none⟩ (.int .i64 c.k)).setCell ⟨g, 1, none⟩ (.int .i64 c.n)).setCell ⟨g, 2, none⟩ (.int .i64 c.st)) := by
  have b : But (One g) w2 (((w2.setCell ⟨g, 0, none⟩ (.int .i64 c.k)).setCell ⟨g, 1, none⟩ (.int .i64 c.n)).setCell ⟨g, 2, none⟩ (.int .i64 c.st)) := ((but_one w2 g 0 _).trans (but_one _ g 1 _)).trans (but_one _ g 2 _)
  have hlt := blk_lt h
  have hs := a2.size
  have hne : ∀ k, w1.heap.size ≤ k → ¬ One g k := fun k hk e => by cases e; omega
  refine ⟨blk_put (blk_put (blk_put (old_blk a2 h) 0 _) 1 _) 2 _, ?_, fun x hx => ?_, hf, h60, h8, (a1.trans a2).then b (fun i hi e => by cases e; omega)⟩
  · exact own_base (own_but own b (fun k hk => hne k (own.lt k hk).1)) (fun k hk => by have := (own.lt k hk).1; omega)
  · exact own_base ((hall x hx).but b (fun k hk => hne k ((hall x hx).lt k hk).1)) (fun k hk => by have := ((hall x hx).lt k hk).1; omega)
theorem Mde.after {w0 : World} {g : Nat} {c : Cf} {v : Value} {xs : List Stp} {w w' : World} (h : Mde w0 g c v xs w) (a : After w w') : Mde w0 g c v xs w' := ⟨old_blk a h.at0, own_after h.own a, fun x hx => (h.all x hx).after a, h.fine, h.few, h.eight, h.aft.trans a⟩
/-- What holds between the operations that make the list that begins with off. -/
structure AlW (w0 : World) (t : Int) (L : Nat → Bool) (_u : Nat → Value) (w : World) : Prop where
  o1 : L 6 = true → L 5 = true
  o2 : L 8 = true → L 6 = true
  aft : After w0 w
  s0 : L 5 = false → w.heap.size = w0.heap.size
  s1 : L 5 = true → L 6 = false → w.heap.size = w0.heap.size + 1
  s2 : L 6 = true → L 8 = false → w.heap.size = w0.heap.size + 2
  h6 : L 6 = true → w.heap[w0.heap.size + 1]? = some (.cells #[.int .i64 2, .int .i64 0, .int .i64 0] 37 (0, 0))
  h8 : L 8 = true → w.heap[w0.heap.size + 2]? = some (.cells #[.int .i64 t, .slice (some ⟨w0.heap.size + 1, 0, none⟩) 1 1] 35 (0, 0))
theorem AlW.keep {w0 : World} {t : Int} {k : Nat} {v : Value} {Tb : Tab} (h5 : 5 ≠ k) (h6 : 6 ≠ k) (h8 : 8 ≠ k) (L : Nat → Bool) (u : Nat → Value) (w : World) (x : AlW w0 t L u w) : AlW w0 t (more L k) (Tb.set k v u) w := by
  refine ⟨?_, ?_, x.aft, ?_, ?_, ?_, ?_, ?_⟩
  · rw [more_ne L h6, more_ne L h5]; exact x.o1
  · rw [more_ne L h8, more_ne L h6]; exact x.o2
  · rw [more_ne L h5]; exact x.s0
  · rw [more_ne L h5, more_ne L h6]; exact x.s1
  · rw [more_ne L h6, more_ne L h8]; exact x.s2
  · rw [more_ne L h6]; exact x.h6
  · rw [more_ne L h8]; exact x.h8
theorem run_bsReal (x y z : Int) (w : World) : (Instr.buildSlice 33 1 #[(0, .agg #[.int .i64 x, .int .i64 y, .int .i64 z])]).run Try.prog w = .ok (.slice (some ⟨w.heap.size, 0, none⟩) 1 1) (w.alloc (.cells #[.int .i64 x, .int .i64 y, .int .i64 z] 37)) := by
  simp [go_sem]
theorem run_bsStep (x : Int) (a : Option Addr) (n c : Nat) (w : World) : (Instr.buildSlice 24 1 #[(0, .agg #[.int .i64 x, .slice a n c])]).run Try.prog w = .ok (.slice (some ⟨w.heap.size, 0, none⟩) 1 1) (w.alloc (.cells #[.int .i64 x, .slice a n c] 35)) := by
  simp [go_sem]
theorem run_bStep (x : Int) (a : Option Addr) (n c : Nat) (w : World) : (Instr.build 35 #[(0, .int .i64 x), (1, .slice a n c)]).run Try.prog w = .ok (.agg #[.int .i64 x, .slice a n c]) w := by
  simp [go_sem]
theorem drop_news {w : World} {b off N p : Nat} {ad : Addr} {xs : List Stp} (h : SRow w (some ⟨b, off, none⟩) N xs) (had : p < N → ad = ⟨b, off + p * 2, none⟩) : ∀ q u, (stps (xs.drop p))[q]? = some u → w.cell? (ad.add q) = some u := by
  intro q u hq
  have hl := h.1
  have hql : q < (xs.length - p) * 2 := by
    rcases Nat.lt_or_ge q ((xs.length - p) * 2) with h' | h'
    · exact h'
    · rw [List.getElem?_eq_none (by rw [stps_length, List.length_drop]; exact h')] at hq; cases hq
  have hpN : p < N := by omega
  rw [had hpN]
  obtain ⟨b', off', y, e, _, hy, h0, h1, _⟩ := h.at_ (i := p + q / 2) (by omega)
  cases e
  have hyd : (xs.drop p)[q / 2]? = some y := by rw [List.getElem?_drop]; exact hy
  obtain ⟨e0, e1⟩ := stps_at _ _ y hyd
  have ea : (⟨b, off + p * 2, none⟩ : Addr).add q = ⟨b, off + p * 2 + q, none⟩ := by
    by_cases hz : q = 0
    · subst hz; simp [Addr.add]
    · simp [Addr.add, hz]
  rw [ea]
  rcases (by omega : q = q / 2 * 2 ∨ q = q / 2 * 2 + 1) with z | z
  · rw [z] at hq; rw [e0] at hq; cases hq
    rw [show off + p * 2 + q = off + (p + q / 2) * 2 by omega]; exact h0
  · rw [z] at hq; rw [e1] at hq; cases hq
    rw [show off + p * 2 + q = off + (p + q / 2) * 2 + 1 by omega]; exact h1
theorem stps_one (xs : List Stp) : ∀ u ∈ stps xs, u.oneCell' = true := by
  induction xs with
  | nil => intro u hu; cases hu
  | cons x r ih =>
    intro u hu
    simp only [stps, List.mem_cons] at hu
    rcases hu with rfl | rfl | hu
    · rfl
    · rfl
    · exact ih u hu
theorem neqR (x y : Int) (w : World) : (binOp .neq 32 (.agg #[.int .i64 x, .int .i64 y]) (.agg #[.int .i64 x, .int .i64 y])).run Try.prog w = .ok (.bool false) w := by
  simp [go_sem]
/-- The list that begins with off, in memory. -/
def offS (t : Int) (g : Nat) : Stp := ⟨t, some ⟨g, 0, none⟩, 1, 1, [⟨2, 0, 0⟩]⟩
theorem alone_own {w0 w7 w8 : World} {t : Int} {v8 : Value} {zs : List Stp} {n : Nat} (hh6 : w7.heap[w0.heap.size + 1]? = some (.cells #[.int .i64 2, .int .i64 0, .int .i64 0] 37 (0, 0))) (a7 : After w0 w7) (hn : zs.length = n) (hall : ∀ x ∈ zs, x.In w0) (h1 : w8.ownsRow w0.heap.size 35 2 v8 (1 + n) ([.int .i64 t, .slice (some ⟨w0.heap.size + 1, 0, none⟩) 1 1] ++ stps zs)) (h2 : w7.grownBy w8 (some (w0.heap.size + 2))) :
    OSts w8 w0.heap.size v8 (offS t (w0.heap.size + 1) :: zs) ∧ (∀ x ∈ offS t (w0.heap.size + 1) :: zs, x.In w8) ∧ After w0 w8 := by
  have b8 : But (fun i => some (w0.heap.size + 2) = some i) w7 w8 := But.grown But.rfl h2 (fun k hk _ => hk)
  have a8 : After w0 w8 := a7.then b8 (fun i hi t => by injection t with t; omega)
  refine ⟨?_, fun x hx => ?_, a8⟩
  · unfold OSts
    rw [show (offS t (w0.heap.size + 1) :: zs).length = 1 + n by simp [hn]; omega]
    exact h1
  · rcases List.mem_cons.1 hx with rfl | hx
    · exact in_lit ((b8.block _ (blk_lt hh6) (fun e => by injection e with e; omega)).trans hh6) rfl rfl
    · exact (hall x hx).after a8
set_option maxHeartbeats 4000000 in
theorem law_forgets (w : World) (k n st : Int) (hk : -9223372036854775808 ≤ k ∧ k ≤ 9223372036854775807) (hn : -9223372036854775808 ≤ n ∧ n ≤ 9223372036854775807) (hst : -9223372036854775808 ≤ st ∧ st ≤ 9223372036854775807) (a : Option Addr) (m d : Nat) (zs : List Stp) (hr : SRow w a m zs) (hb : ∀ x ∈ zs, -9223372036854775808 ≤ x.tick ∧ x.tick ≤ 9223372036854775807) :
    Calls Try.prog 3 #[fVal k n st, .slice a m d] w fun e w' => e = .returned (.bool true) ∧ After w w' := by
  have HMay := hideIt (fun W (aW : After w W) => may_any W k n st hk hn hst a m d zs (hr.after aW) hb)
  have hc := mayC_ok k n st
  generalize mayC k n st = c at *
  have HC := hideIt hc
  clear hk hn hst hr hb hc
  go_enter Try.func3, Try.ntmps3
  go_wp2_with fail
  refine (works_any _).mono ?_
  rintro e w1 ⟨rfl, a1⟩
  have hb1 := old_blk a1 (heap_alloc_new w _)
  have k0 := blk_cell hb1 (i := 0) rfl
  have k1 := blk_cell hb1 (i := 1) rfl
  have k2 := blk_cell hb1 (i := 2) rfl
  have HB := hideIt (And.intro hb1 ((After.rfl.alloc _).trans a1))
  clear hb1 a1
  go_wp2_with fail
  refine (HMay.out _ HB.out.2).mono ?_
  rintro e w2 ⟨v, xs, rfl, own, hall, hf, h60, h8, a2⟩
  have hb2 := old_blk a2 HB.out.1
  have q0 := blk_cell hb2 (i := 0) rfl
  have q1 := blk_cell hb2 (i := 1) rfl
  have q2 := blk_cell hb2 (i := 2) rfl
  have f0 := blk_soft hb2 0
  have f1 := blk_soft hb2 1
  have f2 := blk_soft hb2 2
  have HM := hideIt (mde_store (c := c) rfl HB.out.1 HB.out.2 own hall hf h60 h8 a2)
  clear own hall hf h60 h8 a2 hb2 k0 k1 k2 HMay
  generalize hW : World.setCell (World.setCell (World.setCell w2 _ _) _ _) _ _ = w3 at HM
  have g0 := blk_cell HM.out.at0 (i := 0) rfl
  have g1 := blk_cell HM.out.at0 (i := 1) rfl
  have g2 := blk_cell HM.out.at0 (i := 2) rfl
  obtain ⟨sa, sc, rfl, srow, hnil, hcap⟩ := own_srow HM.out.own (fun x hx => (HM.out.all x hx).in_)
  obtain ⟨N, hN⟩ : ∃ N, xs.length = N := ⟨_, rfl⟩
  rw [hN] at srow hnil hcap
  have HRun := hideIt (run_ok w3 c HC.out sa N sc xs srow (by have := HM.out.few; omega) HM.out.fine)
  have HSr := hideIt (And.intro srow (And.intro hnil (And.intro hcap hN)))
  have hN60 : (N : Int) ≤ 60 := by have := HM.out.few; omega
  rw [hN]
  clear srow hnil hcap hN
  go_wp2_with fail
  refine HRun.out.mono ?_
  rintro e w4 ⟨v4, rfl, od, a4⟩
  have hol : (Ts.new.outs c xs).length = N := by rw [Ts.outs_length]; exact HSr.out.2.2.2
  obtain ⟨oa, oc, rfl, drow⟩ := own_drow od
  rw [hol] at drow
  have HD := hideIt (And.intro drow (And.intro (HM.out.after a4) (HSr.out.1.after a4)))
  rw [hol]
  clear od drow a4 hol HRun g0 g1 g2 q0 q1 q2 f0 f1 f2
  go_wp2_with fail
  go_loopw [7] (fun i wr => ∃ j : Nat, j ≤ N ∧ i = .int .i64 j ∧ After w4 wr) (fun i _ => N - (intOf i).toNat)
  case atStart => exact ⟨0, Nat.zero_le _, rfl, After.rfl⟩
  case round =>
    obtain ⟨j, hj, rfl, aw⟩ := hrel
    by_cases hjn : j < N
    · have i1 : (j : Int) < (N : Int) := by omega
      obtain ⟨b1, off1, R, rfl, hb1, hRx, k0, k1⟩ := HD.out.1.2 j hjn
      have k0' := (aw.cell hb1 _).trans k0
      have hl1 : b1 < wr.heap.size := Nat.lt_of_lt_of_le hb1 aw.size
      by_cases h34 : R.s = 3 ∨ R.s = 4
      · obtain ⟨x, hx⟩ : ∃ x, xs[j]? = some x := ⟨xs[j]'(by rw [HSr.out.2.2.2]; exact hjn), List.getElem?_eq_getElem _⟩
        have hRe : (Ts.new.run c (xs.take j)).read c x.tick x.l = R := by
          have := Ts.outs_at c Ts.new hx
          rw [this] at hRx
          injection hRx
        rw [← hRe] at h34
        obtain ⟨b2, off2, x', hsa, hb2, hx', l0, l1, hin⟩ := HD.out.2.2.at_ hjn
        rw [hx] at hx'
        cases hx'
        cases hsa
        have l0' := (aw.cell hb2 _).trans l0
        have hl2 : b2 < wr.heap.size := Nat.lt_of_lt_of_le hb2 aw.size
        have HX := hideIt (And.intro hx (And.intro h34 (And.intro aw (And.intro l0 l1))))
        obtain ⟨Rs, hRs⟩ : ∃ Rs, R.s = Rs := ⟨_, rfl⟩
        rw [hRs] at k0'
        have h34' : Rs = 3 ∨ Rs = 4 := by rw [← hRs, ← hRe]; exact h34
        clear h34 hRe hRx k0 k1 l0 l1 hin aw hx hRs
        rcases h34' with rfl | rfl
        all_goals
          go_wp2_with fail
          refine region_inv (by kernel_rfl) (Tab.J (⟨10, fun i => [50, 51, 52, 53, 54, 55, 56, 57, 58, 8].getD i 0, fun i => ([some (.slice (some ⟨b2, off2, none⟩) N sc), some (.int .i64 (j : Int)), some (.pointer (some ⟨b2, off2 + j * 2, none⟩)), some (.pointer (some ⟨b2, off2 + j * 2, none⟩)), some (.int .i64 x.tick), some (.agg #[.int .i64 2, .int .i64 0, .int .i64 0]), some (.slice (some ⟨wr.heap.size + 1, 0, none⟩) 1 1), some (.agg #[.int .i64 x.tick, .slice (some ⟨wr.heap.size + 1, 0, none⟩) 1 1]), some (.slice (some ⟨wr.heap.size + 2, 0, none⟩) 1 1), some (.slice (some ⟨wr.heap.size + 2, 0, none⟩) 1 1)] : List (Option Value)).getD i none, AlW wr x.tick⟩ : Tab) _) ⟨rfl, rfl, fun _ _ => rfl, (fun _ _ _ _ h => by cases h), ⟨(fun h => by cases h), (fun h => by cases h), After.rfl.draws 1, fun _ => rfl, (fun h => by cases h), (fun h => by cases h), (fun h => by cases h), (fun h => by cases h)⟩⟩ ?_ ?_
          · exact ⟨inv_move (.inl rfl) rfl rfl rfl rfl rfl rfl rfl rfl (AlW.keep (neB rfl) (neB rfl) (neB rfl)) rfl,
              inv_move (.inl rfl) rfl rfl rfl rfl rfl rfl rfl rfl (AlW.keep (neB rfl) (neB rfl) (neB rfl)) rfl,
              inv_index rfl rfl rfl rfl rfl rfl rfl rfl rfl (AlW.keep (neB rfl) (neB rfl) (neB rfl)) rfl rfl (fun w => indexS w _ _ _ _ _ i1),
              inv_field rfl rfl rfl rfl rfl rfl rfl rfl rfl (AlW.keep (neB rfl) (neB rfl) (neB rfl)) rfl (fun w => fieldS0 w _ _),
              inv_load rfl rfl rfl rfl rfl rfl rfl rfl rfl (AlW.keep (neB rfl) (neB rfl) (neB rfl)) rfl (fun L u W h => loadI ((h.aft.cell hl2 _).trans l0')),
              inv_call rfl rfl rfl rfl rfl rfl rfl rfl (enterP Try.func11 (by kernel_rfl) (by kernel_rfl)) (fun a W L hv hd hl h => by
                rw [show (#[Operand.const (.int .i64 2)] : Array Operand).map a.eval = #[.int .i64 2] from by simp [Act.eval]]
                refine (kind_any 2 W).mono ?_
                rintro e W' ⟨rfl, rfl⟩
                have h6 : L 6 = false := by
                  rcases h6 : L 6 with _ | _
                  · rfl
                  · rw [h.o1 h6] at hl; cases hl
                have h8 : L 8 = false := by
                  rcases h8 : L 8 with _ | _
                  · rfl
                  · rw [h.o2 h8] at h6; cases h6
                refine ⟨_, rfl, (fun v' h' => by cases h'; rfl), ?_, ?_, h.aft.alloc _, ?_, ?_, ?_, ?_, ?_⟩
                · intro _; exact more_self L 5
                · rw [more_ne L (neB rfl), h8]; intro h'; cases h'
                · rw [more_self]; intro h'; cases h'
                · intro _ _; rw [← h.s0 hl]; simp
                · rw [more_ne L (neB rfl), h6]; intro h'; cases h'
                · rw [more_ne L (neB rfl), h6]; intro h'; cases h'
                · rw [more_ne L (neB rfl), h8]; intro h'; cases h'),
              inv_gen (r := fun a => Instr.buildSlice 33 1 #[(0, a.eval (.tmp 55))]) rfl rfl rfl rfl rfl rfl rfl (fun a => by unfold execOp; simp) (fun a W L hv hd hl h => by
                rw [hv (.tmp 55) _ rfl]
                have h5 := hd 5 rfl
                have h8 : L 8 = false := by
                  rcases h8 : L 8 with _ | _
                  · rfl
                  · rw [h.o2 h8] at hl; cases hl
                have hs := h.s1 h5 hl
                refine ⟨_, _, run_bsReal _ _ _ W, (fun v' h' => by cases h'; rw [hs]), ?_, ?_, h.aft.alloc _, ?_, ?_, ?_, ?_, ?_⟩
                · intro _; rw [more_ne L (neB rfl)]; exact h5
                · intro _; exact more_self L 6
                · rw [more_ne L (neB rfl), h5]; intro h'; cases h'
                · rw [more_self]; intro _ h'; cases h'
                · intro _ _; rw [show wr.heap.size + 2 = wr.heap.size + 1 + 1 from rfl, ← hs]; simp
                · intro _; rw [← hs]; exact heap_alloc_new W _
                · rw [more_ne L (neB rfl), h8]; intro h'; cases h'),
              inv_val (r := fun a => Instr.build 35 #[(0, a.eval (.tmp 54)), (1, a.eval (.tmp 56))]) rfl rfl rfl rfl rfl rfl rfl rfl (AlW.keep (neB rfl) (neB rfl) (neB rfl)) (fun a => by unfold execOp; simp) (fun a W hv => by
                rw [hv (.tmp 54) _ rfl, hv (.tmp 56) _ rfl]
                exact run_bStep _ _ _ _ W),
              inv_gen (r := fun a => Instr.buildSlice 24 1 #[(0, a.eval (.tmp 57))]) rfl rfl rfl rfl rfl rfl rfl (fun a => by unfold execOp; simp) (fun a W L hv hd hl h => by
                rw [hv (.tmp 57) _ rfl]
                have h6 := hd 6 rfl
                have h5 := h.o1 h6
                have hs := h.s2 h6 hl
                refine ⟨_, _, run_bsStep _ _ _ _ W, (fun v' h' => by cases h'; rw [hs]), ?_, ?_, h.aft.alloc _, ?_, ?_, ?_, ?_, ?_⟩
                · intro _; rw [more_ne L (neB rfl)]; exact h5
                · intro _; rw [more_ne L (neB rfl)]; exact h6
                · rw [more_ne L (neB rfl), h5]; intro h'; cases h'
                · rw [more_ne L (neB rfl), more_ne L (neB rfl), h6]; intro _ h'; cases h'
                · rw [more_self]; intro _ h'; cases h'
                · intro _; exact old_blk (After.rfl.alloc _) (h.h6 h6)
                · intro _; rw [← hs]; exact heap_alloc_new W _),
              inv_move (.inr rfl) rfl rfl rfl rfl rfl rfl rfl rfl (AlW.keep (neB rfl) (neB rfl) (neB rfl)) rfl,
              trivial⟩
          intro a7 w7 L7 hL7 J7
          have e7 := J7.fin hL7 rfl
          have W7 := J7.other
          have hh6 := W7.h6 (hL7 6 (Nat.le_of_ble_eq_true rfl))
          have hh8 := W7.h8 (hL7 8 (Nat.le_of_ble_eq_true rfl))
          have aw7 := W7.aft
          clear J7 W7
          rw [e7]
          clear e7 hL7
          simp only [Tab.puts, List.getD_cons_succ, List.getD_cons_zero, Option.getD_some, List.setIfInBounds_toArray, List.set_cons_succ, List.set_cons_zero]
          clear a7
          have HA := hideIt (And.intro hh6 (And.intro hh8 aw7))
          clear hh6 hh8 aw7
          have hcp : N ≤ sc := HSr.out.2.2.1
          obtain ⟨i0, hi0, hz⟩ := Option.map_eq_some_iff.1 Try.infoStep
          simp only [Prod.mk.injEq] at hz
          obtain ⟨hz0, hz1, hz2⟩ := hz
          have srow7 := (HD.out.2.2.after HX.out.2.2.1).after HA.out.2.2
          have HS7 := hideIt srow7
          have i3 : ((j : Int) + 1) ≤ (sc : Int) := by omega
          have i4 : ((j : Int) + 1) ≤ (N : Int) := by omega
          clear srow7
          have HOw : Hid (w7.ownsRow wr.heap.size 35 2 (.slice (some ⟨wr.heap.size + 2, 0, none⟩) 1 1) 1 [.int .i64 x.tick, .slice (some ⟨wr.heap.size + 1, 0, none⟩) 1 1]) := ⟨rfl, .inr ⟨_, 1, _, rfl, by omega, HA.out.2.1, by decide, by decide, rfl, rfl⟩⟩
          have hdl : (xs.drop (j + 1)).length = N - (j + 1) := by rw [List.length_drop, HSr.out.2.2.2]
          have HDr := hideIt (And.intro (show (stps (xs.drop (j + 1))).length = (N - (j + 1)) * 2 by rw [stps_length, hdl]) hdl)
          have HDr2 : Hid (∀ y ∈ xs.drop (j + 1), y.In wr) := fun y hy => ((HD.out.2.1.all y (List.mem_of_mem_drop hy)).after HX.out.2.2.1).in_
          clear hdl
          by_cases hsc : sc = j + 1
          · subst hsc
            have HNj := hideIt (show N = j + 1 by omega)
            clear hcp i3
            all_goals
              go_wp2_with (at_builtin; refine wpList_append_own_at _ rfl (.tmp 59) (.tmp 63) 24 rfl wr.heap.size 35 i0 _ 2 32 Try.underlying24 hi0 hz0 hz1 hz2 rfl (by decide) (.slice (some ⟨wr.heap.size + 2, 0, none⟩) 1 1) 1 [.int .i64 x.tick, .slice (some ⟨wr.heap.size + 1, 0, none⟩) 1 1] rfl HOw.out _ _ _ (stps (xs.drop (j + 1))) rfl (by have q1 := HDr.out.2; have q2 := stps_length (xs.drop (j + 1)); first | omega | (have := HNj.out; omega)) (drop_news HS7.out (fun h => absurd h (by have := HNj.out; omega))) (stps_one _) (by unfold maxLen; omega) (by omega) (by have := HA.out.2.2.size; omega) ?_; intro v8 w8 h1 h2 _ h4; have hal := alone_own (zs := xs.drop (j + 1)) HA.out.1 HA.out.2.2 (by have q1 := HDr.out.2; first | omega | (have := HNj.out; omega)) HDr2.out h1 h2; obtain ⟨va, vc, rfl, vrow, _, _⟩ := own_srow hal.1 hal.2.1; generalize hM : (offS x.tick (wr.heap.size + 1) :: xs.drop (j + 1)).length = M at vrow ⊢; have hflt := old_blk hal.2.2 (old_blk HX.out.2.2.1 HD.out.2.1.at0); have p0 := blk_cell hflt (i := 0) rfl; have p1 := blk_cell hflt (i := 1) rfl; have p2 := blk_cell hflt (i := 2) rfl; have HAl := hideIt (And.intro hal.2.2 (And.intro vrow hM)); clear hal vrow hflt h1 h2 h4 hM)
              have vrow := HAl.out.2.1
              have hM := HAl.out.2.2
              have hM2 : M = 1 + (N - (j + 1)) := by rw [← hM, List.length_cons, HDr.out.2]; omega
              have hfa := alone_fine HM.out.fine HX.out.1 (y := offS x.tick (wr.heap.size + 1)) rfl rfl
              have HRun := hideIt (run_ok w8 c HC.out va M vc _ vrow (by have := HM.out.few; omega) hfa)
              clear vrow hM hfa
              refine HRun.out.mono ?_
              rintro e w9 ⟨v9, rfl, od9, a9⟩
              have hol9 : (Ts.new.outs c (offS x.tick (wr.heap.size + 1) :: xs.drop (j + 1))).length = M := by rw [Ts.outs_length, List.length_cons, HDr.out.2]; omega
              obtain ⟨oa9, oc9, rfl, drow9⟩ := own_drow od9
              rw [hol9] at drow9
              rw [hol9]
              have HD9 := hideIt (And.intro drow9 (HAl.out.1.trans a9))
              clear od9 drow9 a9 hol9 HRun p0 p1 p2
              go_wp2_with fail
              have HYt : Hid ((offS x.tick (wr.heap.size + 1)).tick = x.tick ∧ (offS x.tick (wr.heap.size + 1)).l = [⟨2, 0, 0⟩]) := ⟨rfl, rfl⟩
              have HFr : Hid (∀ (q : Nat) (z : Stp), xs[j + 1 + q]? = some z → ((xs.drop (j + 1)).take (q + 1)).any Stp.rel = true → (Ts.new.outs c xs)[j + 1 + q]? = (Ts.new.outs c (offS x.tick (wr.heap.size + 1) :: xs.drop (j + 1)))[q + 1]?) := fun q z hz ha => forgets_read HM.out.fine HX.out.1 HX.out.2.1 HYt.out.1 HYt.out.2 hz ha
              have HAw := hideIt (HX.out.2.2.1.trans HD9.out.2)
              generalize (Ts.new.outs c (offS x.tick (wr.heap.size + 1) :: xs.drop (j + 1))) = ys at *
              have HDrw := hideIt HD9.out.1
              clear HX HA HDr2 HAl HYt HD9 HOw HS7 hl1 hl2 l0' k0'
              go_loopw [11, 12] (fun h kk W => ∃ q : Nat, q ≤ N - (j + 1) ∧ kk = .int .i64 ((j + 1 + q : Nat) : Int) ∧ h = .bool (((xs.drop (j + 1)).take q).any Stp.rel) ∧ After w9 W) (fun _ kk _ => N - (intOf kk).toNat)
              case atStart => exact ⟨0, Nat.zero_le _, by go_num, by simp, After.rfl⟩
              case round =>
                obtain ⟨q, hq, rfl, rfl, aw⟩ := hrel
                by_cases hqn : j + 1 + q < N
                · have n1 : ((j + 1 + q : Nat) : Int) < (N : Int) := by omega
                  obtain ⟨b5, off5, z, hsa, hb5, hz, l0, l1, hin⟩ := HD.out.2.2.at_ hqn
                  cases hsa
                  have aw4 := HAw.out.trans aw
                  have hb5' : b2 < wr.heap.size := Nat.lt_of_lt_of_le hb5 aw4.size
                  have cL := (aw4.cell hb5 _).trans l1
                  have hzd : (xs.drop (j + 1))[q]? = some z := by rw [List.getElem?_drop]; exact hz
                  have hany : ((xs.drop (j + 1)).take (q + 1)).any Stp.rel = (((xs.drop (j + 1)).take q).any Stp.rel || z.rel) := by rw [take_stp hzd, List.any_append]; simp
                  have HZ := hideIt (And.intro hz (And.intro hin (And.intro hany (And.intro aw (And.intro aw4 (And.intro hb5 l1))))))
                  have hln := hin.1.1
                  have HLn := hideIt hln
                  generalize ((xs.drop (j + 1)).take q).any Stp.rel = h0 at *
                  obtain ⟨P, hP⟩ : ∃ P : Nat, P = j + 1 + q := ⟨_, rfl⟩
                  rw [← hP] at n1 cL
                  rw [← hP]
                  have HP := hideIt hP
                  clear hz hzd hany aw aw4 hin l0 l1 hln hP hb5
                  go_wp2_with fail
                  go_loopw [11, 13] (fun h jj W => ∃ p : Nat, p ≤ z.n ∧ jj = .int .i64 p ∧ h = .bool (h0 || (z.l.take p).any Rl.rel) ∧ After w9 W) (fun _ jj _ => z.n - (intOf jj).toNat)
                  case atStart => exact ⟨0, Nat.zero_le _, rfl, by simp, HZ.out.2.2.2.1⟩
                  case round =>
                    obtain ⟨p, hp, rfl, rfl, awp⟩ := hrel
                    have aw4 := HAw.out.trans awp
                    have cL' := (aw4.cell HZ.out.2.2.2.2.2.1 _).trans HZ.out.2.2.2.2.2.2
                    rw [← HP.out] at cL'
                    have hb6 : b2 < wr.heap.size := Nat.lt_of_lt_of_le HZ.out.2.2.2.2.2.1 aw4.size
                    by_cases hpn : p < z.n
                    · have n2 : (p : Int) < (z.n : Int) := by omega
                      obtain ⟨b7, off7, r, hza, hb7, hr7, m0, m1, m2⟩ := HZ.out.2.1.1.at_ hpn
                      rw [hza] at cL'
                      have m0' := (aw4.cell hb7 _).trans m0
                      have hb8 : b7 < wr.heap.size := Nat.lt_of_lt_of_le hb7 aw4.size
                      have hany : (z.l.take (p + 1)).any Rl.rel = ((z.l.take p).any Rl.rel || r.rel) := by rw [List.take_add_one, hr7, List.any_append]; simp
                      have hrel2 : r.rel = (r.k == 0 || r.k == 2) := rfl
                      have HP7 := hideIt (And.intro awp (And.intro hany hrel2))
                      have hpz : (z.n : Int) ≤ 64 := by have := HM.out.fine.few _ _ HZ.out.1; have := HLn.out; omega
                      generalize (z.l.take p).any Rl.rel = h1 at *
                      generalize r.k = kk at *
                      clear awp aw4 hany hrel2 m0 m1 m2 hr7
                      obtain ⟨hh, hhe⟩ : ∃ hh, (h0 || h1) = hh := ⟨_, rfl⟩
                      rw [hhe]
                      obtain ⟨e0, he0⟩ : ∃ e0, (kk == 0) = e0 := ⟨_, rfl⟩
                      obtain ⟨e2, he2⟩ : ∃ e2, (kk == 2) = e2 := ⟨_, rfl⟩
                      have HHE := hideIt (And.intro hhe (And.intro he0 he2))
                      clear hhe
                      cases hh
                      · cases e0
                        · cases e2
                          all_goals
                            go_wp2_with fail
                            go_roundw
                            case rel =>
                              have f := HHE.out
                              exact ⟨p + 1, by omega, by go_num, by rw [HP7.out.2.1, HP7.out.2.2, f.2.1, f.2.2, ← Bool.or_assoc, f.1]; rfl, HP7.out.1⟩
                            case measure => simp [intOf]; omega
                        · clear he2
                          go_wp2_with fail
                          go_roundw
                          case rel =>
                            have f := HHE.out
                            exact ⟨p + 1, by omega, by go_num, by rw [HP7.out.2.1, HP7.out.2.2, f.2.1, ← Bool.or_assoc, f.1]; rfl, HP7.out.1⟩
                          case measure => simp [intOf]; omega
                      · go_wp2_with fail
                        go_roundw
                        case rel =>
                          have f := HHE.out
                          exact ⟨p + 1, by omega, by go_num, by rw [HP7.out.2.1, ← Bool.or_assoc, f.1]; rfl, HP7.out.1⟩
                        case measure => simp [intOf]; omega
                    · have n2 : ¬ (p : Int) < (z.n : Int) := by omega
                      have hpz : p = z.n := by omega
                      have hfe : (h0 || (z.l.take p).any Rl.rel) = (h0 || z.rel) := by
                        rw [hpz, ← HLn.out, List.take_length]; rfl
                      rw [hfe]
                      obtain ⟨F, hF⟩ : ∃ F, (h0 || z.rel) = F := ⟨_, rfl⟩
                      rw [hF]
                      have HFF := hideIt hF
                      have AWP := hideIt (And.intro awp aw4)
                      clear hfe hF hpz awp aw4
                      cases F
                      · go_wp2_with fail
                        go_quiet (fail)
                        go_wp2_with fail
                        go_roundw
                        case rel => exact ⟨q + 1, by have := HP.out; omega, by have := HP.out; go_num, by rw [HZ.out.2.2.1, HFF.out], AWP.out.1.draws _⟩
                        case measure => have := HP.out; simp [intOf]; omega
                      · obtain ⟨b9, off9, r9, hoa9, hb9, hy9, y0, y1⟩ := HDrw.out.2 (q + 1) (by have := HP.out; omega)
                        obtain ⟨b1', off1', r1, hob, hb1', hy1, x0, x1⟩ := HD.out.1.2 P (by omega)
                        cases hob
                        have hrr : r9 = r1 := by
                          have h9 := HFr.out q z HZ.out.1 (by rw [HZ.out.2.2.1, HFF.out])
                          rw [← HP.out, hy1, hy9] at h9
                          injection h9 with h9
                          exact h9.symm
                        subst hrr
                        subst hoa9
                        have y0' := (AWP.out.1.cell hb9 _).trans y0
                        have y1' := (AWP.out.1.cell hb9 _).trans y1
                        have x0' := (AWP.out.2.cell hb1' _).trans x0
                        have x1' := (AWP.out.2.cell hb1' _).trans x1
                        have t1 : (P : Int) - (j : Int) = ((q + 1 : Nat) : Int) := by have := HP.out; omega
                        have t2 : IntKind.i64.wrap ((P : Int) - (j : Int)) = ((q + 1 : Nat) : Int) := by rw [t1]; exact IntWalk.i64_in _ (by have := HP.out; omega)
                        have t3 : ((q + 1 : Nat) : Int) < (M : Int) := by have := HP.out; omega
                        have hnq := fun W => neqR r9.s r9.v W
                        clear y0 y1 x0 x1 hy9 hy1
                        go_wp2_with fail
                        go_quiet (fail)
                        go_wp2_with fail
                        go_roundw
                        case rel => exact ⟨q + 1, by have := HP.out; omega, by have := HP.out; go_num, by rw [HZ.out.2.2.1, HFF.out], AWP.out.1.draws _⟩
                        case measure => have := HP.out; simp [intOf]; omega
                · have n1 : ¬ ((j + 1 + q : Nat) : Int) < (N : Int) := by omega
                  have AWP := hideIt aw
                  clear aw
                  obtain ⟨P, hP⟩ : ∃ P : Nat, P = j + 1 + q := ⟨_, rfl⟩
                  rw [← hP] at n1
                  rw [← hP]
                  clear hP
                  go_wp2_with fail
                  go_roundw
                  case rel => exact ⟨j + 1, by omega, by go_num, HAw.out.trans AWP.out⟩
                  case measure => simp [intOf]; omega
          · have hsc' : ¬ (sc : Int) = (j : Int) + 1 := by omega
            all_goals
              go_wp2_with (at_builtin; refine wpList_append_own_at _ rfl (.tmp 59) (.tmp 63) 24 rfl wr.heap.size 35 i0 _ 2 32 Try.underlying24 hi0 hz0 hz1 hz2 rfl (by decide) (.slice (some ⟨wr.heap.size + 2, 0, none⟩) 1 1) 1 [.int .i64 x.tick, .slice (some ⟨wr.heap.size + 1, 0, none⟩) 1 1] rfl HOw.out _ _ _ (stps (xs.drop (j + 1))) rfl (by have q1 := HDr.out.2; have q2 := stps_length (xs.drop (j + 1)); first | omega | (have := HNj.out; omega)) (drop_news HS7.out (fun h => rfl)) (stps_one _) (by unfold maxLen; omega) (by omega) (by have := HA.out.2.2.size; omega) ?_; intro v8 w8 h1 h2 _ h4; have hal := alone_own (zs := xs.drop (j + 1)) HA.out.1 HA.out.2.2 (by have q1 := HDr.out.2; first | omega | (have := HNj.out; omega)) HDr2.out h1 h2; obtain ⟨va, vc, rfl, vrow, _, _⟩ := own_srow hal.1 hal.2.1; generalize hM : (offS x.tick (wr.heap.size + 1) :: xs.drop (j + 1)).length = M at vrow ⊢; have hflt := old_blk hal.2.2 (old_blk HX.out.2.2.1 HD.out.2.1.at0); have p0 := blk_cell hflt (i := 0) rfl; have p1 := blk_cell hflt (i := 1) rfl; have p2 := blk_cell hflt (i := 2) rfl; have HAl := hideIt (And.intro hal.2.2 (And.intro vrow hM)); clear hal vrow hflt h1 h2 h4 hM)
              have vrow := HAl.out.2.1
              have hM := HAl.out.2.2
              have hM2 : M = 1 + (N - (j + 1)) := by rw [← hM, List.length_cons, HDr.out.2]; omega
              have hfa := alone_fine HM.out.fine HX.out.1 (y := offS x.tick (wr.heap.size + 1)) rfl rfl
              have HRun := hideIt (run_ok w8 c HC.out va M vc _ vrow (by have := HM.out.few; omega) hfa)
              clear vrow hM hfa
              refine HRun.out.mono ?_
              rintro e w9 ⟨v9, rfl, od9, a9⟩
              have hol9 : (Ts.new.outs c (offS x.tick (wr.heap.size + 1) :: xs.drop (j + 1))).length = M := by rw [Ts.outs_length, List.length_cons, HDr.out.2]; omega
              obtain ⟨oa9, oc9, rfl, drow9⟩ := own_drow od9
              rw [hol9] at drow9
              rw [hol9]
              have HD9 := hideIt (And.intro drow9 (HAl.out.1.trans a9))
              clear od9 drow9 a9 hol9 HRun p0 p1 p2
              go_wp2_with fail
              have HYt : Hid ((offS x.tick (wr.heap.size + 1)).tick = x.tick ∧ (offS x.tick (wr.heap.size + 1)).l = [⟨2, 0, 0⟩]) := ⟨rfl, rfl⟩
              have HFr : Hid (∀ (q : Nat) (z : Stp), xs[j + 1 + q]? = some z → ((xs.drop (j + 1)).take (q + 1)).any Stp.rel = true → (Ts.new.outs c xs)[j + 1 + q]? = (Ts.new.outs c (offS x.tick (wr.heap.size + 1) :: xs.drop (j + 1)))[q + 1]?) := fun q z hz ha => forgets_read HM.out.fine HX.out.1 HX.out.2.1 HYt.out.1 HYt.out.2 hz ha
              have HAw := hideIt (HX.out.2.2.1.trans HD9.out.2)
              generalize (Ts.new.outs c (offS x.tick (wr.heap.size + 1) :: xs.drop (j + 1))) = ys at *
              have HDrw := hideIt HD9.out.1
              clear HX HA HDr2 HAl HYt HD9 HOw HS7 hl1 hl2 l0' k0'
              go_loopw [11, 12] (fun h kk W => ∃ q : Nat, q ≤ N - (j + 1) ∧ kk = .int .i64 ((j + 1 + q : Nat) : Int) ∧ h = .bool (((xs.drop (j + 1)).take q).any Stp.rel) ∧ After w9 W) (fun _ kk _ => N - (intOf kk).toNat)
              case atStart => exact ⟨0, Nat.zero_le _, by go_num, by simp, After.rfl⟩
              case round =>
                obtain ⟨q, hq, rfl, rfl, aw⟩ := hrel
                by_cases hqn : j + 1 + q < N
                · have n1 : ((j + 1 + q : Nat) : Int) < (N : Int) := by omega
                  obtain ⟨b5, off5, z, hsa, hb5, hz, l0, l1, hin⟩ := HD.out.2.2.at_ hqn
                  cases hsa
                  have aw4 := HAw.out.trans aw
                  have hb5' : b2 < wr.heap.size := Nat.lt_of_lt_of_le hb5 aw4.size
                  have cL := (aw4.cell hb5 _).trans l1
                  have hzd : (xs.drop (j + 1))[q]? = some z := by rw [List.getElem?_drop]; exact hz
                  have hany : ((xs.drop (j + 1)).take (q + 1)).any Stp.rel = (((xs.drop (j + 1)).take q).any Stp.rel || z.rel) := by rw [take_stp hzd, List.any_append]; simp
                  have HZ := hideIt (And.intro hz (And.intro hin (And.intro hany (And.intro aw (And.intro aw4 (And.intro hb5 l1))))))
                  have hln := hin.1.1
                  have HLn := hideIt hln
                  generalize ((xs.drop (j + 1)).take q).any Stp.rel = h0 at *
                  obtain ⟨P, hP⟩ : ∃ P : Nat, P = j + 1 + q := ⟨_, rfl⟩
                  rw [← hP] at n1 cL
                  rw [← hP]
                  have HP := hideIt hP
                  clear hz hzd hany aw aw4 hin l0 l1 hln hP hb5
                  go_wp2_with fail
                  go_loopw [11, 13] (fun h jj W => ∃ p : Nat, p ≤ z.n ∧ jj = .int .i64 p ∧ h = .bool (h0 || (z.l.take p).any Rl.rel) ∧ After w9 W) (fun _ jj _ => z.n - (intOf jj).toNat)
                  case atStart => exact ⟨0, Nat.zero_le _, rfl, by simp, HZ.out.2.2.2.1⟩
                  case round =>
                    obtain ⟨p, hp, rfl, rfl, awp⟩ := hrel
                    have aw4 := HAw.out.trans awp
                    have cL' := (aw4.cell HZ.out.2.2.2.2.2.1 _).trans HZ.out.2.2.2.2.2.2
                    rw [← HP.out] at cL'
                    have hb6 : b2 < wr.heap.size := Nat.lt_of_lt_of_le HZ.out.2.2.2.2.2.1 aw4.size
                    by_cases hpn : p < z.n
                    · have n2 : (p : Int) < (z.n : Int) := by omega
                      obtain ⟨b7, off7, r, hza, hb7, hr7, m0, m1, m2⟩ := HZ.out.2.1.1.at_ hpn
                      rw [hza] at cL'
                      have m0' := (aw4.cell hb7 _).trans m0
                      have hb8 : b7 < wr.heap.size := Nat.lt_of_lt_of_le hb7 aw4.size
                      have hany : (z.l.take (p + 1)).any Rl.rel = ((z.l.take p).any Rl.rel || r.rel) := by rw [List.take_add_one, hr7, List.any_append]; simp
                      have hrel2 : r.rel = (r.k == 0 || r.k == 2) := rfl
                      have HP7 := hideIt (And.intro awp (And.intro hany hrel2))
                      have hpz : (z.n : Int) ≤ 64 := by have := HM.out.fine.few _ _ HZ.out.1; have := HLn.out; omega
                      generalize (z.l.take p).any Rl.rel = h1 at *
                      generalize r.k = kk at *
                      clear awp aw4 hany hrel2 m0 m1 m2 hr7
                      obtain ⟨hh, hhe⟩ : ∃ hh, (h0 || h1) = hh := ⟨_, rfl⟩
                      rw [hhe]
                      obtain ⟨e0, he0⟩ : ∃ e0, (kk == 0) = e0 := ⟨_, rfl⟩
                      obtain ⟨e2, he2⟩ : ∃ e2, (kk == 2) = e2 := ⟨_, rfl⟩
                      have HHE := hideIt (And.intro hhe (And.intro he0 he2))
                      clear hhe
                      cases hh
                      · cases e0
                        · cases e2
                          all_goals
                            go_wp2_with fail
                            go_roundw
                            case rel =>
                              have f := HHE.out
                              exact ⟨p + 1, by omega, by go_num, by rw [HP7.out.2.1, HP7.out.2.2, f.2.1, f.2.2, ← Bool.or_assoc, f.1]; rfl, HP7.out.1⟩
                            case measure => simp [intOf]; omega
                        · clear he2
                          go_wp2_with fail
                          go_roundw
                          case rel =>
                            have f := HHE.out
                            exact ⟨p + 1, by omega, by go_num, by rw [HP7.out.2.1, HP7.out.2.2, f.2.1, ← Bool.or_assoc, f.1]; rfl, HP7.out.1⟩
                          case measure => simp [intOf]; omega
                      · go_wp2_with fail
                        go_roundw
                        case rel =>
                          have f := HHE.out
                          exact ⟨p + 1, by omega, by go_num, by rw [HP7.out.2.1, ← Bool.or_assoc, f.1]; rfl, HP7.out.1⟩
                        case measure => simp [intOf]; omega
                    · have n2 : ¬ (p : Int) < (z.n : Int) := by omega
                      have hpz : p = z.n := by omega
                      have hfe : (h0 || (z.l.take p).any Rl.rel) = (h0 || z.rel) := by
                        rw [hpz, ← HLn.out, List.take_length]; rfl
                      rw [hfe]
                      obtain ⟨F, hF⟩ : ∃ F, (h0 || z.rel) = F := ⟨_, rfl⟩
                      rw [hF]
                      have HFF := hideIt hF
                      have AWP := hideIt (And.intro awp aw4)
                      clear hfe hF hpz awp aw4
                      cases F
                      · go_wp2_with fail
                        go_quiet (fail)
                        go_wp2_with fail
                        go_roundw
                        case rel => exact ⟨q + 1, by have := HP.out; omega, by have := HP.out; go_num, by rw [HZ.out.2.2.1, HFF.out], AWP.out.1.draws _⟩
                        case measure => have := HP.out; simp [intOf]; omega
                      · obtain ⟨b9, off9, r9, hoa9, hb9, hy9, y0, y1⟩ := HDrw.out.2 (q + 1) (by have := HP.out; omega)
                        obtain ⟨b1', off1', r1, hob, hb1', hy1, x0, x1⟩ := HD.out.1.2 P (by omega)
                        cases hob
                        have hrr : r9 = r1 := by
                          have h9 := HFr.out q z HZ.out.1 (by rw [HZ.out.2.2.1, HFF.out])
                          rw [← HP.out, hy1, hy9] at h9
                          injection h9 with h9
                          exact h9.symm
                        subst hrr
                        subst hoa9
                        have y0' := (AWP.out.1.cell hb9 _).trans y0
                        have y1' := (AWP.out.1.cell hb9 _).trans y1
                        have x0' := (AWP.out.2.cell hb1' _).trans x0
                        have x1' := (AWP.out.2.cell hb1' _).trans x1
                        have t1 : (P : Int) - (j : Int) = ((q + 1 : Nat) : Int) := by have := HP.out; omega
                        have t2 : IntKind.i64.wrap ((P : Int) - (j : Int)) = ((q + 1 : Nat) : Int) := by rw [t1]; exact IntWalk.i64_in _ (by have := HP.out; omega)
                        have t3 : ((q + 1 : Nat) : Int) < (M : Int) := by have := HP.out; omega
                        have hnq := fun W => neqR r9.s r9.v W
                        clear y0 y1 x0 x1 hy9 hy1
                        go_wp2_with fail
                        go_quiet (fail)
                        go_wp2_with fail
                        go_roundw
                        case rel => exact ⟨q + 1, by have := HP.out; omega, by have := HP.out; go_num, by rw [HZ.out.2.2.1, HFF.out], AWP.out.1.draws _⟩
                        case measure => have := HP.out; simp [intOf]; omega
                · have n1 : ¬ ((j + 1 + q : Nat) : Int) < (N : Int) := by omega
                  have AWP := hideIt aw
                  clear aw
                  obtain ⟨P, hP⟩ : ∃ P : Nat, P = j + 1 + q := ⟨_, rfl⟩
                  rw [← hP] at n1
                  rw [← hP]
                  clear hP
                  go_wp2_with fail
                  go_roundw
                  case rel => exact ⟨j + 1, by omega, by go_num, HAw.out.trans AWP.out⟩
                  case measure => simp [intOf]; omega
      · have e3 : (R.s != 3) = true := by simp; omega
        have e4 : (R.s != 4) = true := by simp; omega
        have AW := hideIt aw
        clear aw k0 k1 h34 hRx
        go_wp2_with fail
        go_roundw
        case rel => exact ⟨j + 1, by omega, by go_num, AW.out⟩
        case measure => simp [intOf]; omega
    · have i1 : ¬ (j : Int) < (N : Int) := by omega
      have AW := hideIt aw
      clear aw
      go_wp2_with fail
      go_ret
      exact ⟨rfl, HD.out.2.1.aft.trans AW.out⟩
end Go.Proofs.Ytgapnimicaopcaa
