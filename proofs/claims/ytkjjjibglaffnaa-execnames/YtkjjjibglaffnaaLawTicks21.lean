/-
  ExecTicks: the walk.
-/
import Derived.Test.YtkjjjibglaffnaaRxN
namespace Go.Proofs.Ytkjjjibglaffnaa
open Go.RowKit
set_option maxRecDepth 8000
theorem Tc.Fits.below {w : World} {N B : Nat} {t : Tc} (h : t.Fits w N) (hB : w.heap.size ≤ B) : t.Low B :=
  ⟨fun z hz hn => by
    obtain ⟨b, off, e, hb⟩ := h.1.lt hn
    rw [hz] at e
    cases e
    show b < B
    omega, fun f hf z hz hn => by
    obtain ⟨b, off, e, hb⟩ := (h.2.2 f hf).1.lt hn
    rw [hz] at e
    cases e
    show b < B
    omega⟩
/-- Both that were made are side by side. -/
theorem bth_of {B : Nat} {w w' : World} {q : Nat} {o : Nat → Nat} {x : Xp} {lv : Value} {d : Rq} (X : Xe B w q o x lv) (hB : B ≤ w.heap.size) (a : After w w') (R : Rx w' d x) (hn : ∀ k, d.In k ∨ d.Row x k → w.heap.size ≤ k) : ∃ o', Bth B w' q d o' x lv := by
  obtain ⟨o', ho⟩ : ∃ o' : Nat → Nat, o' = fun k => if k = d.q ∨ k = d.hb ∨ k = d.vb then 9 else o k := ⟨_, rfl⟩
  have h9 : ∀ k, d.In k → o' k = 9 := fun k hk => by rw [ho]; exact if_pos hk
  have hs : ∀ k, ¬ d.In k → o' k = o k := fun k hk => by rw [ho]; exact if_neg hk
  refine ⟨o', X.go hB a (fun _ _ t => t.elim) (fun k hk => hs k (fun s => by have := hn k (.inl s); omega)) (fun k hk => ?_), R, h9, fun k hk => ?_⟩
  · by_cases e : d.In k
    · exact R.lt k (.inl e)
    · rw [hs k e] at hk
      exact Nat.lt_of_lt_of_le (X.bnd k hk) a.size
  · rw [hs k (R.dr k hk)]
    rcases Nat.eq_zero_or_pos (o k) with e | e
    · exact e
    · have := X.bnd k (by omega)
      have := hn k (.inr hk)
      omega
set_option maxHeartbeats 8000000 in
theorem law_ticks21 (w : World) (p : Pl) (ta : Option Addr) (tc : Nat) (ks : List Tc) (hp : p.Fits w 1048576) (ht : GRow tcE w ta ks.length ks) (hk : ∀ t ∈ ks, t.Fits w 1048576) (hn : ks.length ≤ 1048576) :
    Calls Try.prog 3 #[.agg p.cs, .slice ta ks.length tc] w fun e w' => e = .returned (.bool true) ∧ After w w' := by
  obtain ⟨gp, hgp⟩ : ∃ g, g = w.heap.size := ⟨_, rfl⟩
  obtain ⟨W0, hW0⟩ : ∃ W, W = w.alloc (.cells p.cs 26) := ⟨_, rfl⟩
  have a0 : After w W0 := by rw [hW0]; exact After.rfl.alloc _
  have hb0 : W0.heap[gp]? = some (.cells p.cs 26 (0, 0)) := by rw [hW0, hgp]; exact heap_alloc_new w _
  have HW := hideIt (And.intro hW0 hgp)
  have HP := hideIt (And.intro hp (And.intro ht hk))
  have HB := hideIt (And.intro a0 hb0)
  have i0 : (ks.length : Int) ≤ 1048576 := by omega
  have c0 := blk_cell hb0 (i := 0) rfl
  have c1 := blk_cell hb0 (i := 1) rfl
  have c2 := blk_cell hb0 (i := 2) rfl
  have HAw := hideIt (fun W => awake_any W)
  by_cases hok : p.chk = 0
  · have HN := hideIt (pl_ok (hp.after a0) hok)
    have HOk := hideIt hok
    clear hp ht hk hn a0 hb0 hW0 hgp hok c0 c1 c2
    go_enter Try.func3, Try.ntmps3
    have c0 := blk_cell HB.out.2 (i := 0) rfl
    have c1 := blk_cell HB.out.2 (i := 1) rfl
    have c2 := blk_cell HB.out.2 (i := 2) rfl
    go_wp2_with fail
    rw [← HW.out.1, ← HW.out.2]
    go_wp2_with fail
    refine HN.out.mono ?_
    rintro e w2 ⟨q, o, lv, rfl, X, af2⟩
    have HX := hideIt (And.intro X af2)
    have h2 := (af2.block gp (blk_lt HB.out.2) (fun t => t)).trans HB.out.2
    have HR := hideIt (rnew_any (fa := p.fa) (fc := p.fc) (fs := p.fs) (sa := p.sa) (sc := p.sc) (st := p.st) (la := p.la) (lc := p.lc) (lk := p.lk) (N := 1048576) (HP.out.1.after (HB.out.1.trans af2)) (by decide))
    have c0 := blk_cell h2 (i := 0) rfl
    have c1 := blk_cell h2 (i := 1) rfl
    have c2 := blk_cell h2 (i := 2) rfl
    clear X af2 h2 HN
    go_wp2_with fail
    refine HR.out.mono ?_
    rintro e w3 (⟨hno, _⟩ | ⟨_, d, rfl, R, af3, hlo⟩)
    · exact absurd HOk.out hno
    obtain ⟨o', bt⟩ := bth_of HX.out.1 HX.out.2.size af3 R hlo
    have HT := hideIt (And.intro bt (show W0.heap.size ≤ w3.heap.size from Nat.le_trans HX.out.2.size af3.size))
    have A3 := hideIt (show After w w3 from (HB.out.1.trans HX.out.2).trans af3)
    have HS := hideIt (show w.heap.size ≤ W0.heap.size from HB.out.1.size)
    clear R af3 hlo bt HR c0 c1 c2
    go_wp2_with fail
    go_loopw [9] (fun iv wr => ∃ j : Nat, j ≤ ks.length ∧ j ≤ 30 ∧ iv = .int .i64 j ∧ (∃ o x, Bth W0.heap.size wr q d o x lv) ∧ W0.heap.size ≤ wr.heap.size ∧ After w wr) (fun iv _ => 30 - (intOf iv).toNat)
    case atStart => exact ⟨0, Nat.zero_le _, Nat.zero_le _, rfl, ⟨o', p.xp, HT.out.1⟩, HT.out.2, A3.out⟩
    case round =>
      clear HT A3 HX
      obtain ⟨j, hj, hj3, rfl, ⟨o2, x2, bt⟩, hB, ar⟩ := hrel
      by_cases hgo : j < ks.length ∧ j < 30
      · obtain ⟨hjn, hj30⟩ := hgo
        have i3 : (j : Int) < (ks.length : Int) := by omega
        have i4 : (j : Int) < 30 := by omega
        obtain ⟨bb, off, t, rfl, hb, htj, d0⟩ := tc_at (HP.out.2.1.after ar) hjn
        have htf := HP.out.2.2 t (List.mem_of_getElem? htj)
        have HTk := hideIt (ticked_any bt hB (Nat.le_refl _) (htf.after ar) (htf.below HS.out))
        have HA := hideIt (And.intro ar hB)
        clear bt hB ar htj htf hb
        go_wp2_with fail
        refine HTk.out.mono ?_
        rintro e w4 ⟨rfl, hbt, b4⟩
        have H4 := hideIt (And.intro hbt (And.intro (Nat.le_trans HA.out.2 b4.size) (HA.out.1.then b4 (fun k hk s => by have s : W0.heap.size ≤ k := s; have := HS.out; omega))))
        clear hbt b4 HTk d0
        go_wp2_with fail
        go_roundw
        case rel => exact ⟨j + 1, by omega, by omega, by go_num, H4.out⟩
        case measure => simp [intOf]; omega
      · have AR := hideIt ar
        have hdd : (j < ks.length ∧ ¬ j < 30) ∨ ¬ j < ks.length := by omega
        clear ar hgo bt hB
        rcases hdd with ⟨q1, q2⟩ | q1
        · have i3 : (j : Int) < (ks.length : Int) := by omega
          have i4 : ¬ (j : Int) < 30 := by omega
          go_wp2_with fail
          refine (HAw.out wr).mono ?_
          rintro e w5 ⟨rfl, af5⟩
          have A5 := hideIt (AR.out.trans af5)
          clear af5
          go_wp2_with fail
          go_ret
          exact ⟨rfl, A5.out⟩
        · have i3 : ¬ (j : Int) < (ks.length : Int) := by omega
          go_wp2_with fail
          refine (HAw.out wr).mono ?_
          rintro e w5 ⟨rfl, af5⟩
          have A5 := hideIt (AR.out.trans af5)
          clear af5
          go_wp2_with fail
          go_ret
          exact ⟨rfl, A5.out⟩
  · have HN := hideIt (pl_no (hp.after a0) (by decide) hok)
    have HOk := hideIt hok
    obtain ⟨Xc, hXc⟩ : ∃ X, X = p.chk := ⟨_, rfl⟩
    rw [← hXc] at HN
    have hx1 : (Xc != 0) = true := by rw [hXc]; simpa using hok
    have hx2 : (Xc == 0) = false := by rw [hXc]; simpa using hok
    have hx3 : (Xc != Xc) = false := by simp
    have HXc := hideIt hXc
    clear hp ht hk hn a0 hb0 hW0 hgp hok c0 c1 c2 hXc
    go_enter Try.func3, Try.ntmps3
    have c0 := blk_cell HB.out.2 (i := 0) rfl
    have c1 := blk_cell HB.out.2 (i := 1) rfl
    have c2 := blk_cell HB.out.2 (i := 2) rfl
    go_wp2_with fail
    rw [← HW.out.1, ← HW.out.2]
    go_wp2_with fail
    refine HN.out.mono ?_
    rintro e w2 ⟨rfl, af2⟩
    have h2 := (af2.block gp (blk_lt HB.out.2) (fun t => t)).trans HB.out.2
    have HR := hideIt (rnew_any (fa := p.fa) (fc := p.fc) (fs := p.fs) (sa := p.sa) (sc := p.sc) (st := p.st) (la := p.la) (lc := p.lc) (lk := p.lk) (N := 1048576) (HP.out.1.after (HB.out.1.trans af2)) (by decide))
    have c0 := blk_cell h2 (i := 0) rfl
    have c1 := blk_cell h2 (i := 1) rfl
    have c2 := blk_cell h2 (i := 2) rfl
    have A2 := hideIt (HB.out.1.trans af2)
    clear af2 h2 HN
    go_wp2_with fail
    refine HR.out.mono ?_
    rintro e w3 (⟨_, rfl, af3⟩ | ⟨hyes, _⟩)
    rotate_left
    · exact absurd hyes HOk.out
    rw [show chkT (List.map Fw.l p.fs) p.st p.lk = Xc from HXc.out.symm]
    have A3 := hideIt (A2.out.trans af3)
    clear af3 HR c0 c1 c2
    go_wp2_with fail
    go_loopw [9] (fun iv wr => iv = .int .i64 0 ∧ After w wr) (fun _ _ => 0)
    case atStart => exact ⟨rfl, A3.out⟩
    case round =>
      obtain ⟨rfl, ar⟩ := hrel
      have AR := hideIt ar
      clear ar A3
      by_cases hT : (0 : Int) < (ks.length : Int)
      · go_wp2_with fail
        refine (HAw.out wr).mono ?_
        rintro e w5 ⟨rfl, af5⟩
        have A5 := hideIt (AR.out.trans af5)
        clear af5
        go_wp2_with fail
        go_ret
        exact ⟨rfl, A5.out⟩
      · go_wp2_with fail
        refine (HAw.out wr).mono ?_
        rintro e w5 ⟨rfl, af5⟩
        have A5 := hideIt (AR.out.trans af5)
        clear af5
        go_wp2_with fail
        go_ret
        exact ⟨rfl, A5.out⟩
end Go.Proofs.Ytkjjjibglaffnaa
