/-
  AlarmAgain.
-/
import Derived.Test.YthggkpmhcdmalaaAlI
namespace Go.Proofs.Ythggkpmhcdmalaa
open Go.RowKit
set_option maxRecDepth 8000
set_option maxHeartbeats 4000000 in
theorem law_again18 (w : World) (s : Sp) (hs : s.In) (a : Option Addr) (n c : Nat) (xs : List Dd) (hr : DdRow w a n xs) (hx : ∀ d ∈ xs, d.In) (hn : n ≤ 5864062014634) (f : Int) (hf1 : -9223372036854775808 ≤ f) (hf2 : f ≤ 9223372036854775807) :
    Calls Try.prog 5 #[s.v, .slice a n c, .int .i64 f] w fun e w' => e = .returned (.bool true) ∧ After w w' := by
  have HR := hideIt hr
  have HX := hideIt hx
  have hn' : (n : Int) ≤ 5864062014634 := by omega
  have HB : Hid (∀ V, Calls Try.prog 18 #[.int .i64 f, .int .i64 ((n : Int) + 1)] V fun e w' => e = .returned (.int .i64 (broughtTo f (n + 1) : Nat)) ∧ w' = V) := fun V => bring_any f (n + 1) V hf1 hf2 (by omega) (by omega)
  have hF := broughtTo_lt f (m := n + 1) (by omega)
  have hw1 : IntKind.i64.wrap ((n : Int) + 1) = (n : Int) + 1 := IntWalk.i64_in _ (by omega)
  generalize broughtTo f (n + 1) = Fn at *
  clear hr hx hf1 hf2
  have HW := hideIt (fun V => works_any V)
  have HS := hideIt (fun V => spec_any V s hs)
  have HM := hideIt (spc_may s)
  unfold Sp.v at HS
  generalize spc s = S at *
  obtain ⟨w0, hw0⟩ : ∃ w0, w0 = w.alloc (.cells s.cs 23) := ⟨_, rfl⟩
  have h0 : w0.heap[w.heap.size]? = some (.cells s.cs 23 (0, 0)) := by rw [hw0]; exact heap_alloc_new w _
  have A0 := hideIt (show After w w0 by rw [hw0]; exact After.rfl.alloc _)
  have H0 := hideIt h0
  clear hs h0
  go_enter Try.func5, Try.ntmps5
  go_wp2_with fail
  rw [← hw0]
  clear hw0
  refine (HW.out _).mono ?_
  rintro e w1 ⟨rfl, a1⟩
  obtain ⟨c0, c1, c2⟩ := spec_at H0.out a1
  have A1 := hideIt a1
  clear a1 HW
  go_wp2_with fail
  refine (HS.out _).mono ?_
  rintro e w2 ⟨rfl, a2⟩
  clear c0 c1 c2 HS
  have hb := ((A1.out.trans a2).block w.heap.size (blk_lt H0.out) (fun t => t)).trans H0.out
  have z0 := blk_cell (i := 0) (v := .int .i64 s.pr) hb rfl
  have z1 := blk_cell (i := 1) (v := .bool s.la) hb rfl
  have z2 := blk_cell (i := 2) (v := .int .i64 s.es) hb rfl
  have y0 := blk_soft hb 0
  have y1 := blk_soft hb 1
  have y2 := blk_soft hb 2
  obtain ⟨w3, hw3⟩ : ∃ w3, w3 = ((w2.setCell ⟨w.heap.size, 0, none⟩ (.int .i64 S.pr)).setCell ⟨w.heap.size, 1, none⟩ (.bool S.la)).setCell ⟨w.heap.size, 2, none⟩ (.int .i64 S.es) := ⟨_, rfl⟩
  have h3 : w3.heap[w.heap.size]? = some (.cells S.cs 23 (0, 0)) := by rw [hw3]; exact blk_put (blk_put (blk_put hb 0 _) 1 _) 2 _
  have W3 := hideIt (show After w w3 by
    rw [hw3]
    have a : After w w2 := A0.out.trans (A1.out.trans a2)
    exact ((After.set a ⟨w.heap.size, 0, none⟩ (Nat.le_refl _) _).set ⟨w.heap.size, 1, none⟩ (Nat.le_refl _) _).set ⟨w.heap.size, 2, none⟩ (Nat.le_refl _) _)
  have BX := hideIt (fun V (a : After w3 V) => spec_at h3 a)
  have HN := hideIt (wk_new w3 S HM.out)
  clear a2 hb h3 A0 A1 H0
  go_wp2_with fail
  rw [← hw3]
  clear hw3 z0 z1 z2 y0 y1 y2
  refine HN.out.mono ?_
  rintro e w4 ⟨p, rfl, x4⟩
  have X := hideIt x4
  clear x4 HN
  go_wp2_with fail
  refine (HB.out _).mono ?_
  rintro e w5 ⟨rfl, rfl⟩
  clear HB hw1
  go_wp2_with fail
  go_loopw [9, 10] (fun b i wr => ∃ (j : Nat) (x : As), i = .int .i64 j ∧ j ≤ n ∧ ((j ≤ Fn ∧ b = .pointer none ∧ Wk w3 wr p S x) ∨ (Fn < j ∧ ∃ q, b = Ptr q ∧ Tw w3 wr p q S x x))) (fun _ i _ => n + 1 - (intOf i).toNat)
  case atStart => exact ⟨0, As.zero, rfl, Nat.zero_le _, .inl ⟨Nat.zero_le _, rfl, X.out⟩⟩
  case round =>
    obtain ⟨j, x, rfl, hj, H⟩ := hrel
    clear X
    rcases H with ⟨hjf, rfl, wk⟩ | ⟨hjf, q, rfl, tw⟩
    · have WK := hideIt wk
      clear wk
      by_cases hjF : j < Fn
      · have hjn : j < n := by omega
        have g1 : ((j : Int) == (Fn : Int)) = false := by simp; omega
        obtain ⟨b, off, d, rfl, hb, hd, hce⟩ := HR.out.cellAt hjn
        have hdi : d.In := HX.out d (List.mem_of_getElem? hd)
        have HC := hideIt hce
        have HI := hideIt hdi
        have FW := hideIt (doE_few S x d)
        have i1 : (j : Int) ≤ (n : Int) := by omega
        have i2 : ((j : Int) == (n : Int)) = false := by simp; omega
        clear hce hdi hd
        obtain ⟨c0, c1, c2⟩ := HC.out _ (W3.out.trans WK.out.aft)
        have HD := hideIt (do_any WK.out.al d HI.out)
        go_wp2_with fail
        refine HD.out.mono ?_
        rintro e w6 ⟨v, rfl, own, x6, b6⟩
        have W6 := hideIt (WK.out.put x6 b6)
        clear HD own x6 b6 c0 c1 c2
        generalize doS S x d = x' at *
        go_wp2
        go_roundw
        case rel => exact ⟨j + 1, x', by go_num, by omega, .inl ⟨by omega, rfl, W6.out⟩⟩
        case measure => simp [intOf]; omega
      · have g1 : ((j : Int) == (Fn : Int)) = true := by simp; omega
        have i1 : (j : Int) ≤ (n : Int) := by omega
        obtain ⟨b0, b1, b2⟩ := BX.out _ WK.out.aft
        have HT := hideIt (fun V (a : After wr V) => state_any (WK.out.al.after a))
        have HG := hideIt (fun V => again_ok V S x HM.out WK.out.al.st)
        have WT := hideIt (fun V W q (a : After wr V) (h1 : Al W q S x) (h2 : V.heap.size ≤ q) (h3 : After V W) => (show Tw w3 W p q S x x from ⟨(WK.out.after a).after h3, ⟨h1, (WK.out.aft.trans a).trans h3, Nat.le_trans (WK.out.aft.trans a).size h2⟩, fun e => by have := (WK.out.al.after a).lt; omega⟩))
        go_wp2_with fail
        unfold As.v at HT HG
        go_region_held3 (fun V => V.cell? ⟨w.heap.size, 0, none⟩ = some (.int .i64 S.pr) ∧ V.cell? ⟨w.heap.size, 1, none⟩ = some (.bool S.la) ∧ V.cell? ⟨w.heap.size, 2, none⟩ = some (.int .i64 S.es)) (first | go_keep | exact ⟨x0, x1, x2⟩)
          (first
            | (go_at_call 17; refine (HT.out _ (After.rfl.draws 1)).mono ?_; rintro e w6 ⟨rfl, a6⟩; have A6 := hideIt ((After.rfl.draws 1).trans a6); obtain ⟨x0, x1, x2⟩ := BX.out _ (WK.out.aft.trans A6.out); clear a6)
            | (go_at_call 9; refine (HG.out _).mono ?_; rintro e w7 ⟨q, rfl, x7, h7, a7⟩; have T7 := hideIt (WT.out _ _ q A6.out x7 h7 a7); obtain ⟨x0, x1, x2⟩ := BX.out _ T7.out.a.aft; clear x7 h7 a7))
        clear x0 x1 x2 b0 b1 b2 HT HG WT A6 WK
        by_cases hjn : j < n
        · obtain ⟨b, off, d, rfl, hb, hd, hce⟩ := HR.out.cellAt hjn
          have hdi : d.In := HX.out d (List.mem_of_getElem? hd)
          have HC := hideIt hce
          have HI := hideIt hdi
          have FW := hideIt (doE_few S x d)
          have i1 : (j : Int) ≤ (n : Int) := by omega
          have i2 : ((j : Int) == (n : Int)) = false := by simp; omega
          clear hce hdi hd
          obtain ⟨c0, c1, c2⟩ := HC.out _ (W3.out.trans T7.out.a.aft)
          have HD := hideIt (T7.out.doA d HI.out)
          have Q6 := hideIt T7.out.b.al.lt
          go_wp2_with fail
          refine HD.out.mono ?_
          rintro e w6 ⟨ea, ec, rfl, ir6, -, hb6, t6, -⟩
          have T6 := hideIt t6
          have I6 := hideIt (And.intro ir6 hb6)
          clear HD t6 ir6 hb6 c0 c1 c2
          obtain ⟨c0, c1, c2⟩ := HC.out _ (W3.out.trans T6.out.a.aft)
          have HD := hideIt (T6.out.doB d HI.out)
          go_wp2_with fail
          refine HD.out.mono ?_
          rintro e w7 ⟨eb, fc, rfl, ir7, -, -, t7, bt7⟩
          have I7 := hideIt (And.intro (I6.out.1.one bt7 (fun z hz => Nat.lt_of_lt_of_le Q6.out (I6.out.2 z hz))) ir7)
          have T7 := hideIt t7
          clear HD t7 ir7 bt7 c0 c1 c2 I6 T6
          have HQ := hideIt (eqInts_any w7 ea eb (doE S x d).length (doE S x d).length ec fc (doE S x d) (doE S x d) I7.out.1 I7.out.2 (by have := FW.out; omega))
          rw [show decide (doE S x d = doE S x d) = true from decide_eq_true rfl] at HQ
          clear I7
          generalize doE S x d = ev at *
          generalize doS S x d = x' at *
          go_wp2_with fail
          refine HQ.out.mono ?_
          rintro e w8 ⟨rfl, a8⟩
          have T8 := hideIt (T7.out.after a8)
          clear a8 HQ T7
          go_wp2_with fail
          refine T8.out.stateA.mono ?_
          rintro e w9 ⟨rfl, a9⟩
          have T9 := hideIt (T8.out.after a9)
          clear a9 T8
          go_wp2_with fail
          refine T9.out.stateB.mono ?_
          rintro e w10 ⟨rfl, a10⟩
          have T10 := hideIt (T9.out.after a10)
          clear a10 T9
          unfold As.v
          have r1 : (x'.ph == x'.ph) = true := by simp
          have r2 : (x'.pr == x'.pr) = true := by simp
          have r3 : (x'.si == x'.si) = true := by simp
          have r4 : (x'.pa == x'.pa) = true := by simp
          go_wp2
          go_roundw
          case rel => exact ⟨j + 1, x', by go_num, by omega, .inr ⟨by omega, q, rfl, T10.out⟩⟩
          case measure => simp [intOf]; omega
        · have i2 : ((j : Int) == (n : Int)) = true := by simp; omega
          go_wp2
          go_ret
          exact ⟨rfl, W3.out.trans T7.out.a.aft⟩
    · have TW := hideIt tw
      have g1 : ((j : Int) == (Fn : Int)) = false := by simp; omega
      clear tw
      by_cases hjn : j < n
      · obtain ⟨b, off, d, rfl, hb, hd, hce⟩ := HR.out.cellAt hjn
        have hdi : d.In := HX.out d (List.mem_of_getElem? hd)
        have HC := hideIt hce
        have HI := hideIt hdi
        have FW := hideIt (doE_few S x d)
        have i1 : (j : Int) ≤ (n : Int) := by omega
        have i2 : ((j : Int) == (n : Int)) = false := by simp; omega
        clear hce hdi hd
        obtain ⟨c0, c1, c2⟩ := HC.out _ (W3.out.trans TW.out.a.aft)
        have HD := hideIt (TW.out.doA d HI.out)
        have Q6 := hideIt TW.out.b.al.lt
        go_wp2_with fail
        refine HD.out.mono ?_
        rintro e w6 ⟨ea, ec, rfl, ir6, -, hb6, t6, -⟩
        have T6 := hideIt t6
        have I6 := hideIt (And.intro ir6 hb6)
        clear HD t6 ir6 hb6 c0 c1 c2
        obtain ⟨c0, c1, c2⟩ := HC.out _ (W3.out.trans T6.out.a.aft)
        have HD := hideIt (T6.out.doB d HI.out)
        go_wp2_with fail
        refine HD.out.mono ?_
        rintro e w7 ⟨eb, fc, rfl, ir7, -, -, t7, bt7⟩
        have I7 := hideIt (And.intro (I6.out.1.one bt7 (fun z hz => Nat.lt_of_lt_of_le Q6.out (I6.out.2 z hz))) ir7)
        have T7 := hideIt t7
        clear HD t7 ir7 bt7 c0 c1 c2 I6 T6
        have HQ := hideIt (eqInts_any w7 ea eb (doE S x d).length (doE S x d).length ec fc (doE S x d) (doE S x d) I7.out.1 I7.out.2 (by have := FW.out; omega))
        rw [show decide (doE S x d = doE S x d) = true from decide_eq_true rfl] at HQ
        clear I7
        generalize doE S x d = ev at *
        generalize doS S x d = x' at *
        go_wp2_with fail
        refine HQ.out.mono ?_
        rintro e w8 ⟨rfl, a8⟩
        have T8 := hideIt (T7.out.after a8)
        clear a8 HQ T7
        go_wp2_with fail
        refine T8.out.stateA.mono ?_
        rintro e w9 ⟨rfl, a9⟩
        have T9 := hideIt (T8.out.after a9)
        clear a9 T8
        go_wp2_with fail
        refine T9.out.stateB.mono ?_
        rintro e w10 ⟨rfl, a10⟩
        have T10 := hideIt (T9.out.after a10)
        clear a10 T9
        unfold As.v
        have r1 : (x'.ph == x'.ph) = true := by simp
        have r2 : (x'.pr == x'.pr) = true := by simp
        have r3 : (x'.si == x'.si) = true := by simp
        have r4 : (x'.pa == x'.pa) = true := by simp
        go_wp2
        go_roundw
        case rel => exact ⟨j + 1, x', by go_num, by omega, .inr ⟨by omega, q, rfl, T10.out⟩⟩
        case measure => simp [intOf]; omega
      · have i1 : (j : Int) ≤ (n : Int) := by omega
        have i2 : ((j : Int) == (n : Int)) = true := by simp; omega
        go_wp2
        go_ret
        exact ⟨rfl, W3.out.trans TW.out.a.aft⟩
end Go.Proofs.Ythggkpmhcdmalaa
