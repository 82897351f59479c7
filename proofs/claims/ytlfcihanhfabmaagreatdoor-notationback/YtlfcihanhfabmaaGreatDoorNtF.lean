/-
  The reader's unary operations; the whole grammar, by how many words are left.
-/
import Derived.Test.YtlfcihanhfabmaaGreatDoorNtE
namespace Go.Proofs.YtlfcihanhfabmaaGreatDoor
open Go.RowKit
set_option maxRecDepth 8000
open L1 (S)
/-- The unary operations' words, in their order. -/
def unN (ws : W8) : Nat := if ws = wNot then 0 else if ws = wPrev then 1 else if ws = wOnce then 2 else if ws = wHist then 3 else 4
def unO (j : Nat) : Int := if j = 0 then 6 else if j = 1 then 9 else if j = 2 then 10 else 11
theorem unN_no (ws : W8) : ∀ j, j < unN ws → j < 4 → ¬ ws = wordOf (unO j) := by
  intro j hj h5
  unfold unN at hj
  by_cases h0 : ws = wNot
  · rw [if_pos h0] at hj; omega
  rw [if_neg h0] at hj
  by_cases h1 : ws = wPrev
  · rw [if_pos h1] at hj
    have : j = 0 := by omega
    subst this; exact h0
  rw [if_neg h1] at hj
  by_cases h2 : ws = wOnce
  · rw [if_pos h2] at hj
    rcases (by omega : j = 0 ∨ j = 1) with rfl | rfl
    · exact h0
    · exact h1
  rw [if_neg h2] at hj
  by_cases h3 : ws = wHist
  · rw [if_pos h3] at hj
    rcases (by omega : j = 0 ∨ j = 1 ∨ j = 2) with rfl | rfl | rfl
    · exact h0
    · exact h1
    · exact h2
  rcases (by omega : j = 0 ∨ j = 1 ∨ j = 2 ∨ j = 3) with rfl | rfl | rfl | rfl
  · exact h0
  · exact h1
  · exact h2
  · exact h3
theorem unN_yes (ws : W8) : (unN ws = 0 ∧ ws = wNot) ∨ (unN ws = 1 ∧ ws = wPrev) ∨ (unN ws = 2 ∧ ws = wOnce) ∨ (unN ws = 3 ∧ ws = wHist) ∨ (unN ws = 4 ∧ ¬ ws = wNot ∧ ¬ ws = wPrev ∧ ¬ ws = wOnce ∧ ¬ ws = wHist) := by
  unfold unN
  by_cases h0 : ws = wNot
  · rw [if_pos h0]; exact .inl ⟨rfl, h0⟩
  rw [if_neg h0]
  by_cases h1 : ws = wPrev
  · rw [if_pos h1]; exact .inr (.inl ⟨rfl, h1⟩)
  rw [if_neg h1]
  by_cases h2 : ws = wOnce
  · rw [if_pos h2]; exact .inr (.inr (.inl ⟨rfl, h2⟩))
  rw [if_neg h2]
  by_cases h3 : ws = wHist
  · rw [if_pos h3]; exact .inr (.inr (.inr (.inl ⟨rfl, h3⟩)))
  rw [if_neg h3]
  exact .inr (.inr (.inr (.inr ⟨rfl, h0, h1, h2, h3⟩)))
theorem pU_step (n d : Nat) (ws : List W8) (ns : List Nd) : pU (n + 1) d ws ns = if hd ws = wNot then unP 6 0 (pU n d ws.tail ns) else if hd ws = wPrev then unP 9 0 (pU n d ws.tail ns) else if hd ws = wOnce then tkP 10 (pU n d) ws.tail ns else if hd ws = wHist then tkP 11 (pU n d) ws.tail ns else atomP d (orP (pU n (d + 1))) ws ns := rfl
theorem pU_is (n d : Nat) (ws : List W8) (ns : List Nd) : (hd ws = wNot → pU (n + 1) d ws ns = unP 6 0 (pU n d ws.tail ns)) ∧ (hd ws = wPrev → pU (n + 1) d ws ns = unP 9 0 (pU n d ws.tail ns)) ∧ (hd ws = wOnce → pU (n + 1) d ws ns = tkP 10 (pU n d) ws.tail ns) ∧ (hd ws = wHist → pU (n + 1) d ws ns = tkP 11 (pU n d) ws.tail ns) ∧ (unN (hd ws) = 4 → pU (n + 1) d ws ns = atomP d (orP (pU n (d + 1))) ws ns) := by
  refine ⟨fun h => ?_, fun h => ?_, fun h => ?_, fun h => ?_, fun h => ?_⟩
  · rw [pU_step, if_pos h]
  · rw [pU_step, if_neg (by rw [h]; decide), if_pos h]
  · rw [pU_step, if_neg (by rw [h]; decide), if_neg (by rw [h]; decide), if_pos h]
  · rw [pU_step, if_neg (by rw [h]; decide), if_neg (by rw [h]; decide), if_neg (by rw [h]; decide), if_pos h]
  · rcases unN_yes (hd ws) with ⟨e, _⟩ | ⟨e, _⟩ | ⟨e, _⟩ | ⟨e, _⟩ | ⟨_, h0, h1, h2, h3⟩
    · omega
    · omega
    · omega
    · omega
    · rw [pU_step, if_neg h0, if_neg h1, if_neg h2, if_neg h3]
/-- Behind a call of the reader's a block of one's own is as it was, and no node of the reader's lies there. -/
theorem Goes.keep {g q : Nat} {v v' : Value} {w w' : World} {o : Obj} (a : Goes g v w v' w') (hq : q ≠ g) (hv : v.ownBlock ≠ some q) (h : w.heap[q]? = some o) : w'.heap[q]? = some o ∧ v'.ownBlock ≠ some q := by
  refine ⟨(a.but.block q (blk_lt h) (fun e => e.elim hq hv)).trans h, fun e => ?_⟩
  rcases a.new q e with h1 | h1
  · exact hv h1
  · have := blk_lt h; omega
set_option maxHeartbeats 2000000 in
theorem unary_does {w0 : World} {g : Nat} {s : W8} {d n : Nat} (D : Does 104 w0 g s d (pU n d) n) (Do : d < 32 → Does 49 w0 g s (d + 1) (orP (pU n (d + 1))) n) : Does 104 w0 g s d (pU (n + 1) d) (n + 1) := by
  intro w v ts ns hn x
  have HX := hideIt x
  have HD := hideIt D
  have HDo := hideIt Do
  have his := pU_is n d (wds ts) ns
  rw [hd_wds] at his
  have HIs := hideIt his
  have HNo := hideIt (unN_no (hdT ts))
  have HYes := hideIt (unN_yes (hdT ts))
  obtain ⟨N, hN⟩ : ∃ N, N = unN (hdT ts) := ⟨_, rfl⟩
  rw [← hN] at HIs HNo HYes
  have HN := hideIt hn
  clear x hn D Do his hN
  go_enter Tryz.func104, Tryz.ntmps104
  go_wp2_with fail
  obtain ⟨W0, hW0⟩ : ∃ W, W = w.alloc (.cells #[.int .i64 6, .int .i64 9, .int .i64 10, .int .i64 11] 3) := ⟨_, rfl⟩
  have aW : After w W0 := by rw [hW0]; exact After.rfl.alloc _
  have hlt : W0.heap[w.heap.size]? = some (.cells #[.int .i64 6, .int .i64 9, .int .i64 10, .int .i64 11] 3 (0, 0)) := by rw [hW0]; exact heap_alloc_new w _
  have HW0 := hideIt (And.intro aW hlt)
  have HX0 := hideIt (HX.out.after aW)
  rw [← hW0]
  clear hW0 aW hlt
  obtain ⟨l, hl⟩ : ∃ l, l = w.heap.size := ⟨_, rfl⟩
  rw [← hl] at HW0 ⊢
  clear hl
  go_loopw [8] (fun i wr => ∃ j : Nat, j ≤ N ∧ i = .int .i64 (j : Int) ∧ After W0 wr) (fun i _ => 4 - (intOf i).toNat)
  case atStart => exact ⟨0, Nat.zero_le _, rfl, After.rfl⟩
  case round =>
    obtain ⟨j, hj, rfl, aw⟩ := hrel
    have HAw := hideIt aw
    have hb2 := (aw.block _ (blk_lt HW0.out.2) (fun t => t)).trans HW0.out.2
    have hlq : l < wr.heap.size := blk_lt hb2
    by_cases hjN : j < N
    · have hN5 : N ≤ 4 := by rcases HYes.out with h | h | h | h | h <;> omega
      have h5 : j < 4 := by omega
      have i1 : (j : Int) < 4 := by omega
      have hcell : wr.cell? ⟨l, j, none⟩ = some (.int .i64 (unO j)) := by
        rcases (by omega : j = 0 ∨ j = 1 ∨ j = 2 ∨ j = 3) with rfl | rfl | rfl | rfl <;> exact blk_cell hb2 rfl
      have HJ := hideIt hjN
      have H5 := hideIt h5
      clear aw hb2 hj hjN h5 hN5
      go_wp2_with fail
      refine (takes_no (HX0.out.after HAw.out) rfl (HNo.out j HJ.out H5.out)).mono ?_
      rintro e w3 ⟨rfl, a3⟩
      have HA3 := hideIt a3
      clear a3
      go_wp2_with fail
      go_roundw
      case rel => exact ⟨j + 1, HJ.out, by go_num, HAw.out.trans HA3.out⟩
      case measure => simp [intOf]; omega
    · obtain rfl : j = N := by omega
      rcases HYes.out with ⟨rfl, hm⟩ | ⟨rfl, hm⟩ | ⟨rfl, hm⟩ | ⟨rfl, hm⟩ | ⟨rfl, _⟩
      · have hcell : wr.cell? ⟨l, 0, none⟩ = some (.int .i64 6) := blk_cell hb2 rfl
        have HM := hideIt hm
        have HI := hideIt (HIs.out.1 hm)
        have hl0 := hd_tail (ws := wds ts) (by rw [hd_wds, hm]; decide)
        rw [← wds_tail, wds_length, wds_length] at hl0
        have HL := hideIt hl0
        clear aw hb2 hj hjN hm hl0
        go_wp2_with fail
        refine (takes_yes (HX0.out.after HAw.out) (rfl : wordOf 6 = _) HM.out).mono ?_
        rintro e w3 ⟨rfl, y3, b3⟩
        have HY3 := hideIt (And.intro y3 b3)
        have HG3 : Hid (Goes g v w v w3) := hideIt ((Goes.after (HW0.out.1.trans HAw.out)).trans (Goes.one b3))
        clear y3 b3
        go_wp2_with fail
        refine (ticks_has 6 _).mono ?_
        rintro e w4 ⟨rfl, hw4⟩
        have b4 : After w3 w4 := by rw [hw4]; exact After.rfl.alloc _
        obtain ⟨q, hq⟩ : ∃ q, q = w3.heap.size := ⟨_, rfl⟩
        have hb4 : w4.heap[q]? = some (.cells #[.int .i64 6, .int .i64 0, .int .i64 0, .int .i64 0] 33 (0, 0)) := by rw [hw4, hq]; exact heap_alloc_new w3 _
        have hqs : w0.heap.size ≤ q ∧ q ≠ g ∧ v.ownBlock ≠ some q := by
          have y := HY3.out.1
          refine ⟨by rw [hq]; exact y.aft.size, by have := y.m.lt; omega, fun e => ?_⟩
          have := (y.m.own.lt _ e).2
          omega
        have HQ := hideIt hqs
        have HLt : Hid (w.heap.size ≤ q) := hideIt (by rw [hq]; exact HG3.out.but.size)
        have HY4 := hideIt (And.intro (HY3.out.1.after b4) hb4)
        have HG4 : Hid (Goes g v w v w4) := hideIt (HG3.out.trans (Goes.after b4))
        rw [← hq]
        clear hq hqs hw4 b4 hb4
        have HI2 : Hid (pU (n + 1) d (wds ts) ns = unP 6 0 (pU n d (wds ts.tail) ns)) := hideIt (by rw [HI.out, ← wds_tail])
        have HY6 := HY4
        have HG6 := HG4
        obtain ⟨w6, hw6⟩ : ∃ W, W = w4 := ⟨_, rfl⟩
        rw [← hw6] at HY6 HG6 ⊢
        clear hw6
        go_wp2_with fail
        rcases hr : pU n d (wds ts.tail) ns with k1 | h
        · have HW2 : Hid (pU (n + 1) d (wds ts) ns = .error k1) := hideIt (HI2.out.trans (bnd_no hr))
          have HR := hideIt hr
          clear hr
          refine (HD.out.no HR.out (by have := HN.out; have h2 := HL.out; omega) HY6.out.1).mono ?_
          rintro e w7 ⟨rfl, b7⟩
          refine ⟨rfl, ?_⟩
          rw [HW2.out]
          exact ⟨rfl, HG6.out.ends b7⟩
        have HW2 : Hid (pU (n + 1) d (wds ts) ns = putN h.ns ⟨6, h.i, 0, 0⟩ h.ws) := hideIt (HI2.out.trans (bnd_ok hr))
        have f1 := fine_pU n d (wds ts.tail) ns
        rw [hr] at f1
        have HF := hideIt f1
        have HR := hideIt hr
        clear hr f1
        refine (HD.out.yes HR.out (by have := HN.out; have h2 := HL.out; omega) HY6.out.1).mono ?_
        rintro e w7 ⟨v7, ts7, e7, rfl, y7, k7⟩
        obtain ⟨hb7, hv7⟩ := k7.keep HQ.out.2.1 HQ.out.2.2 HY6.out.2
        have r3 := blk_soft hb7 1
        have r0 := blk_cell hb7 (i := 0) rfl
        have r1 := blk_cell hb7 (i := 1) rfl
        have r2 := blk_cell hb7 (i := 2) rfl
        have r4 := blk_cell hb7 (i := 3) rfl
        have hl7 := blk_lt hb7
        obtain ⟨w8, hw8⟩ : ∃ W, W = w7.setCell ⟨q, 1, none⟩ (.int .i64 (h.i : Int)) := ⟨_, rfl⟩
        have b8 : But (One q) w7 w8 := by rw [hw8]; exact but_one _ _ _ _
        have HY8 := hideIt (And.intro e7 (y7.far b8 HQ.out.2.1 hv7 HQ.out.1))
        have HG8 : Hid (Goes g v w v7 w8) := hideIt ((HG6.out.trans k7).far b8 HLt.out)
        have HAd := hideIt (add_any HY8.out.2 ⟨6, h.i, 0, 0⟩ (by have h1 := HX.out.few; have h2 := HL.out; have h3 := HF.out.2.2.2; have h4 := wds_length ts7; rw [HY8.out.1] at h4; rw [wds_length] at h3; simp at h2 h3 ⊢; omega))
        unfold Nd.val at HAd
        clear y7 k7 e7 hb7 hv7 b8
        go_wp2_with fail
        rw [← hw8]
        clear hw8
        refine HAd.out.mono ?_
        rintro e w9 ⟨v9, rfl, y9, k9⟩
        have HY9 := hideIt (And.intro y9 k9)
        clear y9 k9
        go_wp2_with fail
        go_ret
        rw [HW2.out]
        exact ⟨v9, ts7, HY8.out.1, rfl, HY9.out.1, HG8.out.trans HY9.out.2⟩
      · have hcell : wr.cell? ⟨l, 1, none⟩ = some (.int .i64 9) := blk_cell hb2 rfl
        have HM := hideIt hm
        have HI := hideIt (HIs.out.2.1 hm)
        have hl0 := hd_tail (ws := wds ts) (by rw [hd_wds, hm]; decide)
        rw [← wds_tail, wds_length, wds_length] at hl0
        have HL := hideIt hl0
        clear aw hb2 hj hjN hm hl0
        go_wp2_with fail
        refine (takes_yes (HX0.out.after HAw.out) (rfl : wordOf 9 = _) HM.out).mono ?_
        rintro e w3 ⟨rfl, y3, b3⟩
        have HY3 := hideIt (And.intro y3 b3)
        have HG3 : Hid (Goes g v w v w3) := hideIt ((Goes.after (HW0.out.1.trans HAw.out)).trans (Goes.one b3))
        clear y3 b3
        go_wp2_with fail
        refine (ticks_has 9 _).mono ?_
        rintro e w4 ⟨rfl, hw4⟩
        have b4 : After w3 w4 := by rw [hw4]; exact After.rfl.alloc _
        obtain ⟨q, hq⟩ : ∃ q, q = w3.heap.size := ⟨_, rfl⟩
        have hb4 : w4.heap[q]? = some (.cells #[.int .i64 9, .int .i64 0, .int .i64 0, .int .i64 0] 33 (0, 0)) := by rw [hw4, hq]; exact heap_alloc_new w3 _
        have hqs : w0.heap.size ≤ q ∧ q ≠ g ∧ v.ownBlock ≠ some q := by
          have y := HY3.out.1
          refine ⟨by rw [hq]; exact y.aft.size, by have := y.m.lt; omega, fun e => ?_⟩
          have := (y.m.own.lt _ e).2
          omega
        have HQ := hideIt hqs
        have HLt : Hid (w.heap.size ≤ q) := hideIt (by rw [hq]; exact HG3.out.but.size)
        have HY4 := hideIt (And.intro (HY3.out.1.after b4) hb4)
        have HG4 : Hid (Goes g v w v w4) := hideIt (HG3.out.trans (Goes.after b4))
        rw [← hq]
        clear hq hqs hw4 b4 hb4
        have HI2 : Hid (pU (n + 1) d (wds ts) ns = unP 9 0 (pU n d (wds ts.tail) ns)) := hideIt (by rw [HI.out, ← wds_tail])
        have HY6 := HY4
        have HG6 := HG4
        obtain ⟨w6, hw6⟩ : ∃ W, W = w4 := ⟨_, rfl⟩
        rw [← hw6] at HY6 HG6 ⊢
        clear hw6
        go_wp2_with fail
        rcases hr : pU n d (wds ts.tail) ns with k1 | h
        · have HW2 : Hid (pU (n + 1) d (wds ts) ns = .error k1) := hideIt (HI2.out.trans (bnd_no hr))
          have HR := hideIt hr
          clear hr
          refine (HD.out.no HR.out (by have := HN.out; have h2 := HL.out; omega) HY6.out.1).mono ?_
          rintro e w7 ⟨rfl, b7⟩
          refine ⟨rfl, ?_⟩
          rw [HW2.out]
          exact ⟨rfl, HG6.out.ends b7⟩
        have HW2 : Hid (pU (n + 1) d (wds ts) ns = putN h.ns ⟨9, h.i, 0, 0⟩ h.ws) := hideIt (HI2.out.trans (bnd_ok hr))
        have f1 := fine_pU n d (wds ts.tail) ns
        rw [hr] at f1
        have HF := hideIt f1
        have HR := hideIt hr
        clear hr f1
        refine (HD.out.yes HR.out (by have := HN.out; have h2 := HL.out; omega) HY6.out.1).mono ?_
        rintro e w7 ⟨v7, ts7, e7, rfl, y7, k7⟩
        obtain ⟨hb7, hv7⟩ := k7.keep HQ.out.2.1 HQ.out.2.2 HY6.out.2
        have r3 := blk_soft hb7 1
        have r0 := blk_cell hb7 (i := 0) rfl
        have r1 := blk_cell hb7 (i := 1) rfl
        have r2 := blk_cell hb7 (i := 2) rfl
        have r4 := blk_cell hb7 (i := 3) rfl
        have hl7 := blk_lt hb7
        obtain ⟨w8, hw8⟩ : ∃ W, W = w7.setCell ⟨q, 1, none⟩ (.int .i64 (h.i : Int)) := ⟨_, rfl⟩
        have b8 : But (One q) w7 w8 := by rw [hw8]; exact but_one _ _ _ _
        have HY8 := hideIt (And.intro e7 (y7.far b8 HQ.out.2.1 hv7 HQ.out.1))
        have HG8 : Hid (Goes g v w v7 w8) := hideIt ((HG6.out.trans k7).far b8 HLt.out)
        have HAd := hideIt (add_any HY8.out.2 ⟨9, h.i, 0, 0⟩ (by have h1 := HX.out.few; have h2 := HL.out; have h3 := HF.out.2.2.2; have h4 := wds_length ts7; rw [HY8.out.1] at h4; rw [wds_length] at h3; simp at h2 h3 ⊢; omega))
        unfold Nd.val at HAd
        clear y7 k7 e7 hb7 hv7 b8
        go_wp2_with fail
        rw [← hw8]
        clear hw8
        refine HAd.out.mono ?_
        rintro e w9 ⟨v9, rfl, y9, k9⟩
        have HY9 := hideIt (And.intro y9 k9)
        clear y9 k9
        go_wp2_with fail
        go_ret
        rw [HW2.out]
        exact ⟨v9, ts7, HY8.out.1, rfl, HY9.out.1, HG8.out.trans HY9.out.2⟩
      · have hcell : wr.cell? ⟨l, 2, none⟩ = some (.int .i64 10) := blk_cell hb2 rfl
        have HM := hideIt hm
        have HI := hideIt (HIs.out.2.2.1 hm)
        have hl0 := hd_tail (ws := wds ts) (by rw [hd_wds, hm]; decide)
        rw [← wds_tail, wds_length, wds_length] at hl0
        have HL := hideIt hl0
        clear aw hb2 hj hjN hm hl0
        go_wp2_with fail
        refine (takes_yes (HX0.out.after HAw.out) (rfl : wordOf 10 = _) HM.out).mono ?_
        rintro e w3 ⟨rfl, y3, b3⟩
        have HY3 := hideIt (And.intro y3 b3)
        have HG3 : Hid (Goes g v w v w3) := hideIt ((Goes.after (HW0.out.1.trans HAw.out)).trans (Goes.one b3))
        clear y3 b3
        go_wp2_with fail
        refine (ticks_has 10 _).mono ?_
        rintro e w4 ⟨rfl, hw4⟩
        have b4 : After w3 w4 := by rw [hw4]; exact After.rfl.alloc _
        obtain ⟨q, hq⟩ : ∃ q, q = w3.heap.size := ⟨_, rfl⟩
        have hb4 : w4.heap[q]? = some (.cells #[.int .i64 10, .int .i64 0, .int .i64 0, .int .i64 0] 33 (0, 0)) := by rw [hw4, hq]; exact heap_alloc_new w3 _
        have hqs : w0.heap.size ≤ q ∧ q ≠ g ∧ v.ownBlock ≠ some q := by
          have y := HY3.out.1
          refine ⟨by rw [hq]; exact y.aft.size, by have := y.m.lt; omega, fun e => ?_⟩
          have := (y.m.own.lt _ e).2
          omega
        have HQ := hideIt hqs
        have HLt : Hid (w.heap.size ≤ q) := hideIt (by rw [hq]; exact HG3.out.but.size)
        have HY4 := hideIt (And.intro (HY3.out.1.after b4) hb4)
        have HG4 : Hid (Goes g v w v w4) := hideIt (HG3.out.trans (Goes.after b4))
        rw [← hq]
        clear hq hqs hw4 b4 hb4
        rcases hnm : tickOf (hdT ts.tail) with _ | k
        · have HW2 : Hid (pU (n + 1) d (wds ts) ns = .error ts.tail.length) := hideIt (by rw [HI.out]; unfold tkP; rw [← wds_tail, hd_wds, hnm, wds_length])
          have HNm := hideIt hnm
          clear hnm
          go_wp2_with fail
          refine (tick_any HY4.out.1).mono ?_
          rw [HNm.out]
          rintro e w5 ⟨rfl, a5⟩
          refine ⟨rfl, ?_⟩
          rw [HW2.out]
          exact ⟨rfl, (HG4.out.trans (Goes.after a5)).but⟩
        have HI2 : Hid (pU (n + 1) d (wds ts) ns = unP 10 k (pU n d (wds ts.tail.tail) ns)) := hideIt (by rw [HI.out]; unfold tkP; rw [← wds_tail, hd_wds, hnm, ← wds_tail])
        have HNm := hideIt hnm
        clear hnm
        go_wp2_with fail
        refine (tick_any HY4.out.1).mono ?_
        rw [HNm.out]
        rintro e w5 ⟨rfl, y5, b5⟩
        have hb5 := (b5.block q (blk_lt HY4.out.2) HQ.out.2.1).trans HY4.out.2
        have m3 := blk_soft hb5 3
        have m0 := blk_cell hb5 (i := 3) rfl
        have hl5 := blk_lt hb5
        have HY5 := hideIt (And.intro y5 (And.intro b5 hb5))
        clear y5 b5 hb5
        obtain ⟨w6, hw6⟩ : ∃ W, W = w5.setCell ⟨q, 3, none⟩ (.int .i64 (k : Int)) := ⟨_, rfl⟩
        have b6 : But (One q) w5 w6 := by rw [hw6]; exact but_one _ _ _ _
        have hb6 : w6.heap[q]? = some (.cells #[.int .i64 10, .int .i64 0, .int .i64 0, .int .i64 (k : Int)] 33 (0, 0)) := by rw [hw6, blk_put HY5.out.2.2]; rfl
        have HY6 := hideIt (And.intro (HY5.out.1.far b6 HQ.out.2.1 HQ.out.2.2 HQ.out.1) hb6)
        have HG6 : Hid (Goes g v w v w6) := hideIt ((HG4.out.trans (Goes.one HY5.out.2.1)).far b6 HLt.out)
        clear b6 hb6
        go_wp2_with fail
        rw [← hw6]
        clear hw6
        rcases hr : pU n d (wds ts.tail.tail) ns with k1 | h
        · have HW2 : Hid (pU (n + 1) d (wds ts) ns = .error k1) := hideIt (HI2.out.trans (bnd_no hr))
          have HR := hideIt hr
          clear hr
          refine (HD.out.no HR.out (by have := HN.out; have h2 := HL.out; simp at h2 ⊢; omega) HY6.out.1).mono ?_
          rintro e w7 ⟨rfl, b7⟩
          refine ⟨rfl, ?_⟩
          rw [HW2.out]
          exact ⟨rfl, HG6.out.ends b7⟩
        have HW2 : Hid (pU (n + 1) d (wds ts) ns = putN h.ns ⟨10, h.i, 0, k⟩ h.ws) := hideIt (HI2.out.trans (bnd_ok hr))
        have f1 := fine_pU n d (wds ts.tail.tail) ns
        rw [hr] at f1
        have HF := hideIt f1
        have HR := hideIt hr
        clear hr f1
        refine (HD.out.yes HR.out (by have := HN.out; have h2 := HL.out; simp at h2 ⊢; omega) HY6.out.1).mono ?_
        rintro e w7 ⟨v7, ts7, e7, rfl, y7, k7⟩
        obtain ⟨hb7, hv7⟩ := k7.keep HQ.out.2.1 HQ.out.2.2 HY6.out.2
        have r3 := blk_soft hb7 1
        have r0 := blk_cell hb7 (i := 0) rfl
        have r1 := blk_cell hb7 (i := 1) rfl
        have r2 := blk_cell hb7 (i := 2) rfl
        have r4 := blk_cell hb7 (i := 3) rfl
        have hl7 := blk_lt hb7
        obtain ⟨w8, hw8⟩ : ∃ W, W = w7.setCell ⟨q, 1, none⟩ (.int .i64 (h.i : Int)) := ⟨_, rfl⟩
        have b8 : But (One q) w7 w8 := by rw [hw8]; exact but_one _ _ _ _
        have HY8 := hideIt (And.intro e7 (y7.far b8 HQ.out.2.1 hv7 HQ.out.1))
        have HG8 : Hid (Goes g v w v7 w8) := hideIt ((HG6.out.trans k7).far b8 HLt.out)
        have HAd := hideIt (add_any HY8.out.2 ⟨10, h.i, 0, k⟩ (by have h1 := HX.out.few; have h2 := HL.out; have h3 := HF.out.2.2.2; have h4 := wds_length ts7; rw [HY8.out.1] at h4; rw [wds_length] at h3; simp at h2 h3 ⊢; omega))
        unfold Nd.val at HAd
        clear y7 k7 e7 hb7 hv7 b8
        go_wp2_with fail
        rw [← hw8]
        clear hw8
        refine HAd.out.mono ?_
        rintro e w9 ⟨v9, rfl, y9, k9⟩
        have HY9 := hideIt (And.intro y9 k9)
        clear y9 k9
        go_wp2_with fail
        go_ret
        rw [HW2.out]
        exact ⟨v9, ts7, HY8.out.1, rfl, HY9.out.1, HG8.out.trans HY9.out.2⟩
      · have hcell : wr.cell? ⟨l, 3, none⟩ = some (.int .i64 11) := blk_cell hb2 rfl
        have HM := hideIt hm
        have HI := hideIt (HIs.out.2.2.2.1 hm)
        have hl0 := hd_tail (ws := wds ts) (by rw [hd_wds, hm]; decide)
        rw [← wds_tail, wds_length, wds_length] at hl0
        have HL := hideIt hl0
        clear aw hb2 hj hjN hm hl0
        go_wp2_with fail
        refine (takes_yes (HX0.out.after HAw.out) (rfl : wordOf 11 = _) HM.out).mono ?_
        rintro e w3 ⟨rfl, y3, b3⟩
        have HY3 := hideIt (And.intro y3 b3)
        have HG3 : Hid (Goes g v w v w3) := hideIt ((Goes.after (HW0.out.1.trans HAw.out)).trans (Goes.one b3))
        clear y3 b3
        go_wp2_with fail
        refine (ticks_has 11 _).mono ?_
        rintro e w4 ⟨rfl, hw4⟩
        have b4 : After w3 w4 := by rw [hw4]; exact After.rfl.alloc _
        obtain ⟨q, hq⟩ : ∃ q, q = w3.heap.size := ⟨_, rfl⟩
        have hb4 : w4.heap[q]? = some (.cells #[.int .i64 11, .int .i64 0, .int .i64 0, .int .i64 0] 33 (0, 0)) := by rw [hw4, hq]; exact heap_alloc_new w3 _
        have hqs : w0.heap.size ≤ q ∧ q ≠ g ∧ v.ownBlock ≠ some q := by
          have y := HY3.out.1
          refine ⟨by rw [hq]; exact y.aft.size, by have := y.m.lt; omega, fun e => ?_⟩
          have := (y.m.own.lt _ e).2
          omega
        have HQ := hideIt hqs
        have HLt : Hid (w.heap.size ≤ q) := hideIt (by rw [hq]; exact HG3.out.but.size)
        have HY4 := hideIt (And.intro (HY3.out.1.after b4) hb4)
        have HG4 : Hid (Goes g v w v w4) := hideIt (HG3.out.trans (Goes.after b4))
        rw [← hq]
        clear hq hqs hw4 b4 hb4
        rcases hnm : tickOf (hdT ts.tail) with _ | k
        · have HW2 : Hid (pU (n + 1) d (wds ts) ns = .error ts.tail.length) := hideIt (by rw [HI.out]; unfold tkP; rw [← wds_tail, hd_wds, hnm, wds_length])
          have HNm := hideIt hnm
          clear hnm
          go_wp2_with fail
          refine (tick_any HY4.out.1).mono ?_
          rw [HNm.out]
          rintro e w5 ⟨rfl, a5⟩
          refine ⟨rfl, ?_⟩
          rw [HW2.out]
          exact ⟨rfl, (HG4.out.trans (Goes.after a5)).but⟩
        have HI2 : Hid (pU (n + 1) d (wds ts) ns = unP 11 k (pU n d (wds ts.tail.tail) ns)) := hideIt (by rw [HI.out]; unfold tkP; rw [← wds_tail, hd_wds, hnm, ← wds_tail])
        have HNm := hideIt hnm
        clear hnm
        go_wp2_with fail
        refine (tick_any HY4.out.1).mono ?_
        rw [HNm.out]
        rintro e w5 ⟨rfl, y5, b5⟩
        have hb5 := (b5.block q (blk_lt HY4.out.2) HQ.out.2.1).trans HY4.out.2
        have m3 := blk_soft hb5 3
        have m0 := blk_cell hb5 (i := 3) rfl
        have hl5 := blk_lt hb5
        have HY5 := hideIt (And.intro y5 (And.intro b5 hb5))
        clear y5 b5 hb5
        obtain ⟨w6, hw6⟩ : ∃ W, W = w5.setCell ⟨q, 3, none⟩ (.int .i64 (k : Int)) := ⟨_, rfl⟩
        have b6 : But (One q) w5 w6 := by rw [hw6]; exact but_one _ _ _ _
        have hb6 : w6.heap[q]? = some (.cells #[.int .i64 11, .int .i64 0, .int .i64 0, .int .i64 (k : Int)] 33 (0, 0)) := by rw [hw6, blk_put HY5.out.2.2]; rfl
        have HY6 := hideIt (And.intro (HY5.out.1.far b6 HQ.out.2.1 HQ.out.2.2 HQ.out.1) hb6)
        have HG6 : Hid (Goes g v w v w6) := hideIt ((HG4.out.trans (Goes.one HY5.out.2.1)).far b6 HLt.out)
        clear b6 hb6
        go_wp2_with fail
        rw [← hw6]
        clear hw6
        rcases hr : pU n d (wds ts.tail.tail) ns with k1 | h
        · have HW2 : Hid (pU (n + 1) d (wds ts) ns = .error k1) := hideIt (HI2.out.trans (bnd_no hr))
          have HR := hideIt hr
          clear hr
          refine (HD.out.no HR.out (by have := HN.out; have h2 := HL.out; simp at h2 ⊢; omega) HY6.out.1).mono ?_
          rintro e w7 ⟨rfl, b7⟩
          refine ⟨rfl, ?_⟩
          rw [HW2.out]
          exact ⟨rfl, HG6.out.ends b7⟩
        have HW2 : Hid (pU (n + 1) d (wds ts) ns = putN h.ns ⟨11, h.i, 0, k⟩ h.ws) := hideIt (HI2.out.trans (bnd_ok hr))
        have f1 := fine_pU n d (wds ts.tail.tail) ns
        rw [hr] at f1
        have HF := hideIt f1
        have HR := hideIt hr
        clear hr f1
        refine (HD.out.yes HR.out (by have := HN.out; have h2 := HL.out; simp at h2 ⊢; omega) HY6.out.1).mono ?_
        rintro e w7 ⟨v7, ts7, e7, rfl, y7, k7⟩
        obtain ⟨hb7, hv7⟩ := k7.keep HQ.out.2.1 HQ.out.2.2 HY6.out.2
        have r3 := blk_soft hb7 1
        have r0 := blk_cell hb7 (i := 0) rfl
        have r1 := blk_cell hb7 (i := 1) rfl
        have r2 := blk_cell hb7 (i := 2) rfl
        have r4 := blk_cell hb7 (i := 3) rfl
        have hl7 := blk_lt hb7
        obtain ⟨w8, hw8⟩ : ∃ W, W = w7.setCell ⟨q, 1, none⟩ (.int .i64 (h.i : Int)) := ⟨_, rfl⟩
        have b8 : But (One q) w7 w8 := by rw [hw8]; exact but_one _ _ _ _
        have HY8 := hideIt (And.intro e7 (y7.far b8 HQ.out.2.1 hv7 HQ.out.1))
        have HG8 : Hid (Goes g v w v7 w8) := hideIt ((HG6.out.trans k7).far b8 HLt.out)
        have HAd := hideIt (add_any HY8.out.2 ⟨11, h.i, 0, k⟩ (by have h1 := HX.out.few; have h2 := HL.out; have h3 := HF.out.2.2.2; have h4 := wds_length ts7; rw [HY8.out.1] at h4; rw [wds_length] at h3; simp at h2 h3 ⊢; omega))
        unfold Nd.val at HAd
        clear y7 k7 e7 hb7 hv7 b8
        go_wp2_with fail
        rw [← hw8]
        clear hw8
        refine HAd.out.mono ?_
        rintro e w9 ⟨v9, rfl, y9, k9⟩
        have HY9 := hideIt (And.intro y9 k9)
        clear y9 k9
        go_wp2_with fail
        go_ret
        rw [HW2.out]
        exact ⟨v9, ts7, HY8.out.1, rfl, HY9.out.1, HG8.out.trans HY9.out.2⟩
      · have i1 : ¬ ((4 : Nat) : Int) < 4 := by omega
        have HI := hideIt (HIs.out.2.2.2.2 rfl)
        have HAt := hideIt (atom_does (fine_or (fine_pU n (d + 1))) HDo.out HN.out (HX0.out.after HAw.out))
        rw [← HI.out] at HAt
        clear aw hb2 hj hjN
        go_wp2_with fail
        refine HAt.out.mono ?_
        intro e w1 ht
        rcases hq : pU (n + 1) d (wds ts) ns with k | h
        · rw [hq] at ht
          obtain ⟨rfl, b⟩ := ht
          exact ⟨rfl, by rw [hq]; exact ⟨rfl, ((HW0.out.1.trans HAw.out).but).trans b⟩⟩
        · rw [hq] at ht
          obtain ⟨v1, ts1, e1, rfl, y, k⟩ := ht
          have HY := hideIt (And.intro e1 (And.intro y ((Goes.after (HW0.out.1.trans HAw.out)).trans k)))
          clear e1 y k
          go_wp2_with fail
          go_ret
          rw [hq]
          exact ⟨v1, ts1, HY.out.1, rfl, HY.out.2.1, HY.out.2.2⟩
/-- The whole grammar. -/
theorem unary_all {w0 : World} {g : Nat} {s : W8} : ∀ n d, Does 104 w0 g s d (pU n d) n
  | 0, _ => fun w v ts ns hn _ => absurd hn (by omega)
  | n + 1, d => unary_does (unary_all n d) (fun _ => or_does (fine_and (fine_pU n (d + 1))) (and_does (fine_sin (fine_pU n (d + 1))) (since_does (fine_pU n (d + 1)) (unary_all n (d + 1)))))
theorem or_all {w0 : World} {g : Nat} {s : W8} (n d : Nat) : Does 49 w0 g s d (orP (pU n d)) n :=
  or_does (fine_and (fine_pU n d)) (and_does (fine_sin (fine_pU n d)) (since_does (fine_pU n d) (unary_all n d)))
end Go.Proofs.YtlfcihanhfabmaaGreatDoor
