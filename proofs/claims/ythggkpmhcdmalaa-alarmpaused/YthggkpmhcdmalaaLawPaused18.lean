/-
  AlarmPaused.
-/
import Derived.Test.YthggkpmhcdmalaaAlI
namespace Go.Proofs.Ythggkpmhcdmalaa
open Go.RowKit
set_option maxRecDepth 8000
/-- Two states laid in new blocks, the second not paused. -/
theorem two_states (w9 : World) (a b c d : Int) (w10 : World) (h : w10 = (w9.alloc (.cells #[.int .i64 a, .int .i64 b, .int .i64 c, .int .i64 d] 25)).alloc (.cells #[.int .i64 a, .int .i64 b, .int .i64 c, .int .i64 0] 25)) :
    w10.cell? ⟨w9.heap.size, 0, none⟩ = some (.int .i64 a) ∧ w10.cell? ⟨w9.heap.size, 1, none⟩ = some (.int .i64 b) ∧ w10.cell? ⟨w9.heap.size, 2, none⟩ = some (.int .i64 c) ∧ w10.cell? ⟨w9.heap.size, 3, none⟩ = some (.int .i64 d) ∧ w10.frozen? ⟨w9.heap.size, 3, none⟩ = false ∧
    w10.cell? ⟨w9.heap.size + 1, 0, none⟩ = some (.int .i64 a) ∧ w10.cell? ⟨w9.heap.size + 1, 1, none⟩ = some (.int .i64 b) ∧ w10.cell? ⟨w9.heap.size + 1, 2, none⟩ = some (.int .i64 c) ∧ w10.cell? ⟨w9.heap.size + 1, 3, none⟩ = some (.int .i64 0) ∧ w9.heap.size + 1 < w10.heap.size ∧ After w9 (w10.setCell ⟨w9.heap.size, 3, none⟩ (.int .i64 0)) := by
  have h0 := heap_alloc_new w9 (.cells #[.int .i64 a, .int .i64 b, .int .i64 c, .int .i64 d] 25)
  have h1 := heap_alloc_new (w9.alloc (.cells #[.int .i64 a, .int .i64 b, .int .i64 c, .int .i64 d] 25)) (.cells #[.int .i64 a, .int .i64 b, .int .i64 c, .int .i64 0] 25)
  rw [← h, show (w9.alloc (.cells #[.int .i64 a, .int .i64 b, .int .i64 c, .int .i64 d] 25)).heap.size = w9.heap.size + 1 by simp] at h1
  have h2 : w10.heap[w9.heap.size]? = some (.cells #[.int .i64 a, .int .i64 b, .int .i64 c, .int .i64 d] 25 (0, 0)) := by
    rw [h]
    exact ((After.rfl.alloc _ : After _ _).block _ (blk_lt h0) (fun t => t)).trans h0
  have af : After w9 w10 := by rw [h]; exact (After.rfl.alloc _).alloc _
  exact ⟨blk_cell h2 rfl, blk_cell h2 rfl, blk_cell h2 rfl, blk_cell h2 rfl, blk_soft h2 3, blk_cell h1 rfl, blk_cell h1 rfl, blk_cell h1 rfl, blk_cell h1 rfl, blk_lt h1, af.set ⟨w9.heap.size, 3, none⟩ (Nat.le_refl _) _⟩
set_option maxHeartbeats 4000000 in
theorem law_paused18 (w : World) (s : Sp) (hs : s.In) (a : Option Addr) (n c : Nat) (xs : List Dd) (hr : DdRow w a n xs) (hx : ∀ d ∈ xs, d.In) (hn : n ≤ 5864062014634) :
    Calls Try.prog 6 #[s.v, .slice a n c] w fun e w' => e = .returned (.bool true) ∧ After w w' := by
  have HR := hideIt hr
  have HX := hideIt hx
  have hn' : (n : Int) ≤ 5864062014634 := by omega
  clear hr hx
  have HW := hideIt (fun V => works_any V)
  have HS := hideIt (fun V => spec_any V s hs)
  have HM := hideIt (spc_may s)
  unfold Sp.v at HS
  generalize spc s = S at *
  obtain ⟨w0, hw0⟩ : ∃ w0, w0 = w.alloc (.cells s.cs 23) := ⟨_, rfl⟩
  have h0 : w0.heap[w.heap.size]? = some (.cells s.cs 23 (0, 0)) := by rw [hw0]; exact heap_alloc_new w _
  have A0 := hideIt (show After w w0 by rw [hw0]; exact After.rfl.alloc _)
  have H0 := hideIt h0
  clear hs h0
  go_enter Try.func6, Try.ntmps6
  go_wp2_with fail
  rw [← hw0]
  clear hw0
  refine (HW.out _).mono ?_
  rintro e w1 ⟨rfl, a1⟩
  obtain ⟨c0, c1, c2⟩ := spec_at H0.out a1
  have A1 := hideIt a1
  clear a1 HW
  go_wp2_with fail
  refine (HS.out _).mono ?_
  rintro e w2 ⟨rfl, a2⟩
  clear c0 c1 c2 HS
  have hb := ((A1.out.trans a2).block w.heap.size (blk_lt H0.out) (fun t => t)).trans H0.out
  have z0 := blk_cell (i := 0) (v := .int .i64 s.pr) hb rfl
  have z1 := blk_cell (i := 1) (v := .bool s.la) hb rfl
  have z2 := blk_cell (i := 2) (v := .int .i64 s.es) hb rfl
  have y0 := blk_soft hb 0
  have y1 := blk_soft hb 1
  have y2 := blk_soft hb 2
  obtain ⟨w3, hw3⟩ : ∃ w3, w3 = ((w2.setCell ⟨w.heap.size, 0, none⟩ (.int .i64 S.pr)).setCell ⟨w.heap.size, 1, none⟩ (.bool S.la)).setCell ⟨w.heap.size, 2, none⟩ (.int .i64 S.es) := ⟨_, rfl⟩
  have h3 : w3.heap[w.heap.size]? = some (.cells S.cs 23 (0, 0)) := by rw [hw3]; exact blk_put (blk_put (blk_put hb 0 _) 1 _) 2 _
  have W3 := hideIt (show After w w3 by
    rw [hw3]
    have a : After w w2 := A0.out.trans (A1.out.trans a2)
    exact ((After.set a ⟨w.heap.size, 0, none⟩ (Nat.le_refl _) _).set ⟨w.heap.size, 1, none⟩ (Nat.le_refl _) _).set ⟨w.heap.size, 2, none⟩ (Nat.le_refl _) _)
  have BX := hideIt (fun V (a : After w3 V) => spec_at h3 a)
  have HN := hideIt (wk_new w3 S HM.out)
  clear a2 hb h3 A0 A1 H0
  go_wp2_with fail
  rw [← hw3]
  clear hw3 z0 z1 z2 y0 y1 y2
  refine HN.out.mono ?_
  rintro e w4 ⟨p, rfl, x4⟩
  have X := hideIt x4
  clear x4 HN
  obtain ⟨b0, b1, b2⟩ := BX.out _ X.out.aft
  have HN := hideIt (new_ok w4 S HM.out)
  go_wp2_with fail
  refine HN.out.mono ?_
  rintro e w5 ⟨q, rfl, x5, h5, a5⟩
  have T := hideIt (show Tw w3 w5 p q S As.zero As.zero from ⟨X.out.after a5, ⟨x5, X.out.aft.trans a5, Nat.le_trans X.out.aft.size h5⟩, fun e => by have := X.out.al.lt; omega⟩)
  clear x5 h5 a5 HN X b0 b1 b2
  go_wp2_with fail
  go_loopw [9, 10] (fun l i wr => ∃ (j : Nat) (x : As), l = .int .i64 x.pa ∧ i = .int .i64 j ∧ j ≤ n ∧ Tw w3 wr p q S x x.un) (fun _ i _ => n - (intOf i).toNat)
  case atStart => exact ⟨0, As.zero, rfl, rfl, Nat.zero_le _, T.out⟩
  case round =>
    obtain ⟨j, x, rfl, rfl, hj, tw⟩ := hrel
    have TW := hideIt tw
    clear tw T
    by_cases hjn : j < n
    · have i1 : (j : Int) < (n : Int) := by omega
      obtain ⟨b, off, d, rfl, hb, hd, hce⟩ := HR.out.cellAt hjn
      have hdi : d.In := HX.out d (List.mem_of_getElem? hd)
      have HC := hideIt hce
      obtain ⟨c0, c1, c2⟩ := hce _ (W3.out.trans TW.out.a.aft)
      have HD := hideIt (TW.out.doA d hdi)
      have HI := hideIt hdi
      have HB := hideIt (fun V => bring3 d.k V hdi.1 hdi.2.1)
      have ST := hideIt (And.intro TW.out.a.al.may TW.out.a.al.st)
      have W1 := do_ways S x d
      have W2 := hideIt (do_ways S x.un d)
      have FW := hideIt (doE_few S x d)
      clear hce hdi hd
      rcases W1 with ⟨k1, e1, s1⟩ | ⟨k1, e1, s1⟩ | ⟨k1, e1, s1⟩
      · have E2 := hideIt (show doE S x.un d = stE S x.un d.act ∧ doS S x.un d = (stS S x d.act).un by
          rcases W2.out with ⟨_, e2, s2⟩ | ⟨k2, _, _⟩ | ⟨k2, _, _⟩
          · exact ⟨e2, by rw [s2, stS_un]⟩
          · omega
          · omega)
        have EV := hideIt (stE_un S x d.act)
        have PA := hideIt (st_pa S x d.act)
        have FU := hideIt (st_few S x.un d.act)
        have FV := hideIt (st_few S x d.act)
        have px1 := ST.out.2.1
        have px2 := ST.out.2.2.1
        have PX := hideIt (And.intro px1 px2)
        rw [e1, s1] at HD
        rw [k1] at HB
        clear k1 e1 s1 W2 FW px1 px2
        generalize stS S x d.act = x' at *
        generalize stE S x d.act = ev at *
        generalize stE S x.un d.act = ys at *
        go_wp2_with fail
        refine HD.out.mono ?_
        rintro e w6 ⟨ea, ec, rfl, ir6, -, hb6, t6, bt6⟩
        have T6 := hideIt t6
        have I6 := hideIt (And.intro ir6 hb6)
        have Q6 := hideIt (Nat.lt_of_lt_of_le TW.out.b.al.lt (Nat.le_refl _))
        clear HD t6 ir6 hb6 bt6 c0 c1 c2
        obtain ⟨c0, c1, c2⟩ := HC.out _ (W3.out.trans T6.out.a.aft)
        have HD := hideIt (T6.out.doB d HI.out)
        rw [E2.out.1, E2.out.2] at HD
        go_wp2_with fail
        refine (HB.out _).mono ?_
        rintro e w7 ⟨rfl, rfl⟩
        clear HB
        go_wp2_with fail
        refine HD.out.mono ?_
        rintro e w7 ⟨eb, fc, rfl, ir7, nn7, hb7, t7, bt7⟩
        have I7 := hideIt (And.intro (I6.out.1.one bt7 (fun z hz => Nat.lt_of_lt_of_le Q6.out (I6.out.2 z hz))) (And.intro ir7 nn7))
        have T7 := hideIt t7
        clear HD t7 ir7 nn7 hb7 bt7 c0 c1 c2 I6
        rcases (by have := PX.out; omega : x.pa = 0 ∨ x.pa = 1 ∨ 1 < x.pa) with h0 | h0 | h0
        · have hg : ¬ 0 < x.pa := by omega
          have HL' := hideIt (show x.pa = x'.pa by rw [PA.out, if_pos h0, h0])
          have hcmp : (x'.pa != x.pa) = false := by rw [← HL'.out]; simp
          have hev : ev = ys := by rw [EV.out]; unfold wtE; rw [if_neg (by omega)]; rfl
          have HQ := hideIt (eqInts_any w7 ea eb ev.length ys.length ec fc ev ys I7.out.1 I7.out.2.1 (by have := FV.out; omega))
          rw [decide_eq_true hev] at HQ
          clear h0 hev
          go_wp2_with fail
          refine HQ.out.mono ?_
          rintro e w77 ⟨rfl, a77⟩
          have T77 := hideIt (T7.out.after a77)
          clear a77 HQ
          go_wp2_with fail
          refine T77.out.stateA.mono ?_
          rintro e w8 ⟨rfl, a8⟩
          have T8 := hideIt (T77.out.after a8)
          clear a8
          go_wp2_with fail
          refine T8.out.stateB.mono ?_
          rintro e w9 ⟨rfl, a9⟩
          have T9 := hideIt (T8.out.after a9)
          clear a9 T8
          unfold As.v As.un
          obtain ⟨w10, hw10⟩ : ∃ w10, w10 = (w9.alloc (.cells #[.int .i64 x'.ph, .int .i64 x'.pr, .int .i64 x'.si, .int .i64 x'.pa] 25)).alloc (.cells #[.int .i64 x'.ph, .int .i64 x'.pr, .int .i64 x'.si, .int .i64 0] 25) := ⟨_, rfl⟩
          obtain ⟨p0, p1, p2, p3, p4, o0, o1, o2, o3, g10, a10⟩ := two_states w9 x'.ph x'.pr x'.si x'.pa w10 hw10
          go_upto_region 28 with fail
          rw [← hw10]
          clear hw10
          have A10 := hideIt (a10 : After w9 (w10.setCell ⟨w9.heap.size, 3, none⟩ (.int .i64 0)))
          have r1 : (x'.ph == x'.ph) = true := by simp
          have r2 : (x'.pr == x'.pr) = true := by simp
          have r3 : (x'.si == x'.si) = true := by simp
          clear a10
          go_wp2
          go_roundw
          case rel => exact ⟨j + 1, x', by first | rfl | exact congrArg (Value.int .i64) HL'.out, by go_num, by omega, T9.out.after A10.out⟩
          case measure => simp [intOf]; omega
        · have hg : 0 < x.pa := by omega
          have hw : IntKind.i64.wrap (x.pa - 1) = x.pa - 1 := IntWalk.i64_in _ (by have := PX.out; omega)
          have hz : ((x.pa - 1) == 0) = true := by simp; omega
          have HL' := hideIt (show x.pa - 1 = x'.pa by rw [PA.out, if_neg (by omega)])
          have hcmp : (x'.pa != x.pa - 1) = false := by rw [← HL'.out]; simp
          have hev : ev = 4 :: ys := by rw [EV.out]; unfold wtE; rw [if_pos h0]; rfl
          have HEV := hideIt hev
          clear h0 hev
          go_wp2_with (at_builtin; refine app_ints rfl (.tmp 91) (.tmp 92) rfl w7.heap.size _ [4] rfl (own_one w7 4) eb ys.length fc ys rfl (I7.out.2.1.after (After.rfl.alloc _)) I7.out.2.2 (by have := FU.out; simp only [List.length_cons, List.length_nil]; omega) ((After.rfl.alloc _ : After _ _).size) ?_)
          intro v3 w70 o3 b3
          have a70 : After w7 w70 := After.then (After.rfl.alloc _) b3 (fun i hi t => by have e : some w7.heap.size = some i := t; have := Option.some.inj e; omega)
          obtain ⟨na, nc, rfl, ir70, -, -, -⟩ := own_irow o3
          have HQ := hideIt (eqInts_any w70 ea na ev.length _ ec nc ev _ (I7.out.1.after a70) ir70 (by have := FV.out; omega))
          rw [decide_eq_true HEV.out] at HQ
          have T70 := hideIt (T7.out.after a70)
          clear o3 b3 a70 ir70
          go_wp2_with fail
          refine HQ.out.mono ?_
          rintro e w77 ⟨rfl, a77⟩
          have T77 := hideIt (T70.out.after a77)
          clear a77 HQ
          go_wp2_with fail
          refine T77.out.stateA.mono ?_
          rintro e w8 ⟨rfl, a8⟩
          have T8 := hideIt (T77.out.after a8)
          clear a8
          go_wp2_with fail
          refine T8.out.stateB.mono ?_
          rintro e w9 ⟨rfl, a9⟩
          have T9 := hideIt (T8.out.after a9)
          clear a9 T8
          unfold As.v As.un
          obtain ⟨w10, hw10⟩ : ∃ w10, w10 = (w9.alloc (.cells #[.int .i64 x'.ph, .int .i64 x'.pr, .int .i64 x'.si, .int .i64 x'.pa] 25)).alloc (.cells #[.int .i64 x'.ph, .int .i64 x'.pr, .int .i64 x'.si, .int .i64 0] 25) := ⟨_, rfl⟩
          obtain ⟨p0, p1, p2, p3, p4, o0, o1, o2, o3, g10, a10⟩ := two_states w9 x'.ph x'.pr x'.si x'.pa w10 hw10
          go_upto_region 28 with fail
          rw [← hw10]
          clear hw10
          have A10 := hideIt (a10 : After w9 (w10.setCell ⟨w9.heap.size, 3, none⟩ (.int .i64 0)))
          have r1 : (x'.ph == x'.ph) = true := by simp
          have r2 : (x'.pr == x'.pr) = true := by simp
          have r3 : (x'.si == x'.si) = true := by simp
          clear a10
          go_wp2
          go_roundw
          case rel => exact ⟨j + 1, x', by first | rfl | exact congrArg (Value.int .i64) HL'.out, by go_num, by omega, T9.out.after A10.out⟩
          case measure => simp [intOf]; omega
        · have hg : 0 < x.pa := by omega
          have hw : IntKind.i64.wrap (x.pa - 1) = x.pa - 1 := IntWalk.i64_in _ (by have := PX.out; omega)
          have hz : ((x.pa - 1) == 0) = false := by simp; omega
          have HL' := hideIt (show x.pa - 1 = x'.pa by rw [PA.out, if_neg (by omega)])
          have hcmp : (x'.pa != x.pa - 1) = false := by rw [← HL'.out]; simp
          have hev : ev = ys := by rw [EV.out]; unfold wtE; rw [if_neg (by omega)]; rfl
          have HQ := hideIt (eqInts_any w7 ea eb ev.length ys.length ec fc ev ys I7.out.1 I7.out.2.1 (by have := FV.out; omega))
          rw [decide_eq_true hev] at HQ
          clear h0 hev
          go_wp2_with fail
          refine HQ.out.mono ?_
          rintro e w77 ⟨rfl, a77⟩
          have T77 := hideIt (T7.out.after a77)
          clear a77 HQ
          go_wp2_with fail
          refine T77.out.stateA.mono ?_
          rintro e w8 ⟨rfl, a8⟩
          have T8 := hideIt (T77.out.after a8)
          clear a8
          go_wp2_with fail
          refine T8.out.stateB.mono ?_
          rintro e w9 ⟨rfl, a9⟩
          have T9 := hideIt (T8.out.after a9)
          clear a9 T8
          unfold As.v As.un
          obtain ⟨w10, hw10⟩ : ∃ w10, w10 = (w9.alloc (.cells #[.int .i64 x'.ph, .int .i64 x'.pr, .int .i64 x'.si, .int .i64 x'.pa] 25)).alloc (.cells #[.int .i64 x'.ph, .int .i64 x'.pr, .int .i64 x'.si, .int .i64 0] 25) := ⟨_, rfl⟩
          obtain ⟨p0, p1, p2, p3, p4, o0, o1, o2, o3, g10, a10⟩ := two_states w9 x'.ph x'.pr x'.si x'.pa w10 hw10
          go_upto_region 28 with fail
          rw [← hw10]
          clear hw10
          have A10 := hideIt (a10 : After w9 (w10.setCell ⟨w9.heap.size, 3, none⟩ (.int .i64 0)))
          have r1 : (x'.ph == x'.ph) = true := by simp
          have r2 : (x'.pr == x'.pr) = true := by simp
          have r3 : (x'.si == x'.si) = true := by simp
          clear a10
          go_wp2
          go_roundw
          case rel => exact ⟨j + 1, x', by first | rfl | exact congrArg (Value.int .i64) HL'.out, by go_num, by omega, T9.out.after A10.out⟩
          case measure => simp [intOf]; omega
      · have E2 := hideIt (show doE S x.un d = [] ∧ doS S x.un d = (akS x).un by
          rcases W2.out with ⟨k2, _, _⟩ | ⟨_, e2, s2⟩ | ⟨k2, _, _⟩
          · omega
          · exact ⟨e2, by rw [s2, akS_un]⟩
          · omega)
        have PA := hideIt (ak_pa x)
        rw [e1, s1] at HD
        rw [k1] at HB
        clear k1 e1 s1 W2 FW
        generalize akS x = x' at *
        go_wp2_with fail
        refine HD.out.mono ?_
        rintro e w6 ⟨ea, ec, rfl, ir6, -, hb6, t6, bt6⟩
        have T6 := hideIt t6
        have I6 := hideIt (And.intro ir6 hb6)
        have Q6 := hideIt (Nat.lt_of_lt_of_le TW.out.b.al.lt (Nat.le_refl _))
        clear HD t6 ir6 hb6 bt6 c0 c1 c2
        obtain ⟨c0, c1, c2⟩ := HC.out _ (W3.out.trans T6.out.a.aft)
        have HD := hideIt (T6.out.doB d HI.out)
        rw [E2.out.1, E2.out.2] at HD
        go_wp2_with fail
        refine (HB.out _).mono ?_
        rintro e w7 ⟨rfl, rfl⟩
        clear HB
        go_wp2_with fail
        refine HD.out.mono ?_
        rintro e w7 ⟨eb, fc, rfl, ir7, nn7, hb7, t7, bt7⟩
        have I7 := hideIt (And.intro (I6.out.1.one bt7 (fun z hz => Nat.lt_of_lt_of_le Q6.out (I6.out.2 z hz))) (And.intro ir7 nn7))
        have T7 := hideIt t7
        clear HD t7 ir7 nn7 hb7 bt7 c0 c1 c2 I6
        have HL' := hideIt (show x.pa = x'.pa from PA.out.symm)
        have hcmp : (x'.pa != x.pa) = false := by rw [← HL'.out]; simp
        have HQ := hideIt (eqInts_any w7 ea eb 0 0 ec fc [] [] I7.out.1 I7.out.2.1 (by omega))
        rw [decide_eq_true rfl] at HQ
        go_wp2_with fail
        refine HQ.out.mono ?_
        rintro e w77 ⟨rfl, a77⟩
        have T77 := hideIt (T7.out.after a77)
        clear a77 HQ
        go_wp2_with fail
        refine T77.out.stateA.mono ?_
        rintro e w8 ⟨rfl, a8⟩
        have T8 := hideIt (T77.out.after a8)
        clear a8
        go_wp2_with fail
        refine T8.out.stateB.mono ?_
        rintro e w9 ⟨rfl, a9⟩
        have T9 := hideIt (T8.out.after a9)
        clear a9 T8
        unfold As.v As.un
        obtain ⟨w10, hw10⟩ : ∃ w10, w10 = (w9.alloc (.cells #[.int .i64 x'.ph, .int .i64 x'.pr, .int .i64 x'.si, .int .i64 x'.pa] 25)).alloc (.cells #[.int .i64 x'.ph, .int .i64 x'.pr, .int .i64 x'.si, .int .i64 0] 25) := ⟨_, rfl⟩
        obtain ⟨p0, p1, p2, p3, p4, o0, o1, o2, o3, g10, a10⟩ := two_states w9 x'.ph x'.pr x'.si x'.pa w10 hw10
        go_upto_region 28 with fail
        rw [← hw10]
        clear hw10
        have A10 := hideIt (a10 : After w9 (w10.setCell ⟨w9.heap.size, 3, none⟩ (.int .i64 0)))
        have r1 : (x'.ph == x'.ph) = true := by simp
        have r2 : (x'.pr == x'.pr) = true := by simp
        have r3 : (x'.si == x'.si) = true := by simp
        clear a10
        go_wp2
        go_roundw
        case rel => exact ⟨j + 1, x', by first | rfl | exact congrArg (Value.int .i64) HL'.out, by go_num, by omega, T9.out.after A10.out⟩
        case measure => simp [intOf]; omega
      · rw [e1, s1, ps_is] at HD
        rw [k1] at HB
        have HP := hideIt (fun V => bring6k d.n V HI.out.2.2.1 HI.out.2.2.2)
        have hp6 := broughtTo_lt d.n (m := 6000) (by omega)
        have hw : IntKind.i64.wrap (1 + ((broughtTo d.n 6000 : Nat) : Int)) = 1 + ((broughtTo d.n 6000 : Nat) : Int) := IntWalk.i64_in _ (by omega)
        unfold Dd.ps at HD
        clear k1 e1 s1 W2 FW
        generalize broughtTo d.n 6000 = B at *
        go_wp2_with fail
        refine HD.out.mono ?_
        rintro e w6 ⟨ea, ec, rfl, -, -, -, t6, -⟩
        have T6 := hideIt (show Tw w3 w6 p q S { x with pa := 1 + (B : Int) } ({ x with pa := 1 + (B : Int) } : As).un from t6)
        clear HD t6 c0 c1 c2
        obtain ⟨c0, c1, c2⟩ := HC.out _ (W3.out.trans T6.out.a.aft)
        go_wp2_with fail
        refine (HB.out _).mono ?_
        rintro e w7 ⟨rfl, rfl⟩
        clear HB
        go_wp2_with fail
        refine (HP.out _).mono ?_
        rintro e w7 ⟨rfl, rfl⟩
        clear HP c0 c1 c2
        generalize hx' : ({ x with pa := 1 + (B : Int) } : As) = x' at *
        have HL : 1 + (B : Int) = x'.pa := by rw [← hx']
        have HL' := hideIt HL
        have hcmp : (x'.pa != 1 + (B : Int)) = false := by rw [HL]; simp
        clear hx' HL
        go_wp2_with fail
        refine T6.out.stateA.mono ?_
        rintro e w8 ⟨rfl, a8⟩
        have T8 := hideIt (T6.out.after a8)
        clear a8
        go_wp2_with fail
        refine T8.out.stateB.mono ?_
        rintro e w9 ⟨rfl, a9⟩
        have T9 := hideIt (T8.out.after a9)
        clear a9 T8
        unfold As.v As.un
        obtain ⟨w10, hw10⟩ : ∃ w10, w10 = (w9.alloc (.cells #[.int .i64 x'.ph, .int .i64 x'.pr, .int .i64 x'.si, .int .i64 x'.pa] 25)).alloc (.cells #[.int .i64 x'.ph, .int .i64 x'.pr, .int .i64 x'.si, .int .i64 0] 25) := ⟨_, rfl⟩
        obtain ⟨p0, p1, p2, p3, p4, o0, o1, o2, o3, g10, a10⟩ := two_states w9 x'.ph x'.pr x'.si x'.pa w10 hw10
        go_upto_region 28 with fail
        rw [← hw10]
        clear hw10
        have A10 := hideIt (a10 : After w9 (w10.setCell ⟨w9.heap.size, 3, none⟩ (.int .i64 0)))
        have r1 : (x'.ph == x'.ph) = true := by simp
        have r2 : (x'.pr == x'.pr) = true := by simp
        have r3 : (x'.si == x'.si) = true := by simp
        clear a10
        go_wp2
        go_roundw
        case rel => exact ⟨j + 1, x', by first | rfl | exact congrArg (Value.int .i64) HL'.out, by go_num, by omega, T9.out.after A10.out⟩
        case measure => simp [intOf]; omega
    · have i1 : ¬ (j : Int) < (n : Int) := by omega
      go_wp2
      go_ret
      exact ⟨rfl, W3.out.trans TW.out.a.aft⟩
end Go.Proofs.Ythggkpmhcdmalaa
