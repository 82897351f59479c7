/-
  FrameFeeds, walked.
-/
import Derived.Test.YtmdbpoknehafaaaLawCounts
import Derived.Test.YtmdbpoknehafaaaLawWraps
namespace Go.Proofs.Ytmdbpoknehafaaa
open Go.RowKit
/-- A block of bytes, so many at least. -/
def BytesAt (W : World) (b n : Nat) : Prop := ∃ cs : Array Value, W.heap[b]? = some (.cells cs 5 (0, 0)) ∧ ∀ i, i < n → ∃ x : Nat, x < 256 ∧ cs[i]? = some (.int .u8 x)
theorem BytesAt.but {S : Nat → Prop} {W W' : World} {b n : Nat} (h : BytesAt W b n) (hb : But S W W') (hs : ¬ S b) : BytesAt W' b n := by
  obtain ⟨cs, h1, h2⟩ := h
  exact ⟨cs, (hb.block b (Array.getElem?_eq_some_iff.1 h1).1 hs).trans h1, h2⟩
theorem BytesAt.lt {W : World} {b n : Nat} (h : BytesAt W b n) : b < W.heap.size := by
  obtain ⟨cs, h1, h2⟩ := h
  exact (Array.getElem?_eq_some_iff.1 h1).1
theorem BytesAt.at {W : World} {b n j : Nat} (h : BytesAt W b n) (hj : j < n) : ∃ x : Nat, x < 256 ∧ W.cell? ⟨b, j, none⟩ = some (.int .u8 x) ∧ W.frozen? ⟨b, j, none⟩ = false := by
  obtain ⟨cs, h1, h2⟩ := h
  obtain ⟨x, hx, hc⟩ := h2 j hj
  refine ⟨x, hx, ?_, ?_⟩
  · unfold World.cell?; simp [h1, hc]
  · unfold World.frozen?; simp [h1]
/-- A byte that is stored leaves bytes. -/
theorem BytesAt.set {W : World} {b n : Nat} (h : BytesAt W b n) (g j : Nat) {y : Int} (hy : 0 ≤ y ∧ y ≤ 255) : BytesAt (W.setCell ⟨g, j, none⟩ (.int .u8 y)) b n := by
  by_cases e : g = b
  · subst e
    obtain ⟨cs, h1, h2⟩ := h
    refine ⟨cs.setIfInBounds j (.int .u8 y), by simp [World.setCell, Array.getElem?_modify, h1], fun i hi => ?_⟩
    obtain ⟨x, hx, hc⟩ := h2 i hi
    rw [Array.getElem?_setIfInBounds]
    by_cases e : j = i
    · subst e
      have hj : j < cs.size := (Array.getElem?_eq_some_iff.1 hc).1
      rw [if_pos rfl, if_pos hj]
      exact ⟨y.toNat, by omega, by rw [Int.toNat_of_nonneg hy.1]⟩
    · rw [if_neg e]; exact ⟨x, hx, hc⟩
  · exact h.but (But.own1 W g j _) (fun t => e (Eq.symm t))
/-- The blocks of some values. -/
def Inn (xs : List Value) : Nat → Prop := fun i => ∃ x ∈ xs, x.ownBlock = some i
/-- Values that lead to bytes, whatever they are. -/
def Soft (W : World) (xs : List Value) : Prop := ∀ x ∈ xs, ∃ g n c, x = .slice (some ⟨g, 0, none⟩) n c ∧ BytesAt W g n ∧ n ≤ 256
theorem Soft.of {W : World} {B : Nat} {xs : List Value} {fs : List (List Int)} (h : Each (OwnB W B) xs fs) (hf : ∀ f ∈ fs, 1 ≤ f.length ∧ f.length ≤ 256) : Soft W xs := by
  intro x hx
  obtain ⟨i, hi, rfl⟩ := List.mem_iff_getElem.1 hx
  have hi2 : i < fs.length := by rw [← h.1]; exact hi
  obtain ⟨x, e1, o, hb⟩ := h.at hi2
  rw [List.getElem?_eq_getElem hi] at e1
  cases e1
  have hl := hf (fs.getD i []) (by simp [List.getD_eq_getElem?_getD, hi2])
  generalize fs.getD i [] = f at *
  rcases o.2 with ⟨e, e2⟩ | ⟨g, cap, cur, e, _, e3, e4, _, e6, e7⟩
  · omega
  · refine ⟨g, _, cap, e, ⟨cur, e3, fun j hj => ?_⟩, hl.2⟩
    have hbj := hb.at hj
    refine ⟨(f.getD j 0).toNat, by omega, ?_⟩
    have e8 : (cur.toList.take (f.length * 1))[j]? = (u8s f)[j]? := by rw [e7]
    rw [List.getElem?_take, if_pos (by omega)] at e8
    rw [← Array.getElem?_toList, e8, Int.toNat_of_nonneg hbj.1]
    simp [u8s, hj]
theorem Soft.set {W : World} {xs : List Value} (h : Soft W xs) (g j : Nat) {y : Int} (hy : 0 ≤ y ∧ y ≤ 255) : Soft (W.setCell ⟨g, j, none⟩ (.int .u8 y)) xs := fun x hx => by
  obtain ⟨b, n, c, e, hb, hn⟩ := h x hx
  exact ⟨b, n, c, e, hb.set g j hy, hn⟩
/-- Two deframers with the same bytes, apart; made since the world w0. -/
structure Both (w0 w : World) (g h g' h' : Nat) (zs : List Int) : Prop where
  df : DfAt w g h zs
  rf : RfAt w g' h' zs
  gg : g ≠ g'
  gh : g ≠ h'
  hg : h ≠ g'
  aft : After w0 w
  g0 : w0.heap.size ≤ g
  h0 : w0.heap.size ≤ h
  g1 : w0.heap.size ≤ g'
  h1 : w0.heap.size ≤ h'
theorem Both.but {S : Nat → Prop} {w0 w w' : World} {g h g' h' : Nat} {zs : List Int} (p : Both w0 w g h g' h' zs) (b : But S w w') (hs : ∀ i, S i → w0.heap.size ≤ i ∧ i ≠ g ∧ i ≠ h ∧ i ≠ g' ∧ i ≠ h') : Both w0 w' g h g' h' zs :=
  ⟨p.df.but b (fun t => (hs _ t).2.1 rfl) (fun t => (hs _ t).2.2.1 rfl), p.rf.but b (fun t => (hs _ t).2.2.2.1 rfl) (fun t => (hs _ t).2.2.2.2 rfl), p.gg, p.gh, p.hg, p.aft.then b (fun i hi t => by have := (hs i t).1; omega), p.g0, p.h0, p.g1, p.h1⟩
theorem Both.after {w0 w w' : World} {g h g' h' : Nat} {zs : List Int} (p : Both w0 w g h g' h' zs) (b : After w w') : Both w0 w' g h g' h' zs := p.but b (fun _ t => t.elim)
/-- One of them is fed, then the other. -/
theorem Both.feed {w0 w w1 w2 : World} {g h g' h' k k' : Nat} {zs us : List Int} (p : Both w0 w g h g' h' zs) (d : DfAt w1 g k us) (hk : k = g ∨ w.heap.size ≤ k) (b1 : But (One g) w w1) (r : RfAt w2 g' k' us) (hk' : k' = g' ∨ w1.heap.size ≤ k') (b2 : But (One g') w1 w2) : Both w0 w2 g k g' k' us := by
  have l1 := p.df.lt
  have l2 := p.rf.lt
  have l3 := d.lt
  have s1 := b1.size
  have s2 := p.aft.size
  have x1 := p.g0
  have x2 := p.g1
  have x3 := p.gg
  refine ⟨d.but b2 (fun t => p.gg t) (fun t => ?_), r, p.gg, ?_, ?_, (p.aft.then b1 (fun i hi t => ?_)).then b2 (fun i hi t => ?_), p.g0, ?_, p.g1, ?_⟩
  · have t2 : k = g' := t
    omega
  · omega
  · omega
  · have t2 : i = g := t
    omega
  · have t2 : i = g' := t
    omega
  · omega
  · omega
theorem FrsM.cap {w : World} {B M : Nat} {v : Value} {fs : List (List Int)} (h : FrsM w B M v fs) : FrsM w B (min M w.heap.size) v fs := by
  obtain ⟨xs, h1, h2⟩ := h
  exact ⟨xs, h1, h2.mono (fun x f e => ⟨e.1, fun k hk => by have h3 := e.2 k hk; have h4 := (e.1.1.lt k hk).2; omega⟩)⟩
/-- What is known of the frames, for the loops that turn their bytes. -/
theorem frs_open {W : World} {B M : Nat} {v : Value} {fs : List (List Int)} (h : FrsM W B M v fs) (hf : ∀ f ∈ fs, 1 ≤ f.length ∧ f.length ≤ 256) : ∃ xs a c, v = .slice a fs.length c ∧ xs.length = fs.length ∧ Soft W xs ∧ (∀ i, Inn xs i → B ≤ i ∧ i < M) ∧ ∀ k, k < fs.length → ∃ gv x, a = some ⟨gv, 0, none⟩ ∧ gv < W.heap.size ∧ ¬ Inn xs gv ∧ x ∈ xs ∧ W.cell? ⟨gv, k, none⟩ = some x := by
  obtain ⟨xs, h1, h2⟩ := h
  have hin : ∀ i, Inn xs i → (B ≤ i ∧ i < M) ∧ ∃ cs, W.heap[i]? = some (.cells cs 5 (0, 0)) := fun i ⟨x, hx, hi⟩ => by
    obtain ⟨j, hj, rfl⟩ := List.mem_iff_getElem.1 hx
    obtain ⟨x, e1, ⟨o, _⟩, om⟩ := h2.at (i := j) (by rw [← h2.1]; exact hj)
    rw [List.getElem?_eq_getElem hj] at e1
    cases e1
    refine ⟨⟨(o.lt i hi).1, om i hi⟩, ?_⟩
    rcases o.2 with ⟨e, _⟩ | ⟨g, cap, cur, e, _, e3, _⟩
    · rw [e] at hi; cases hi
    · rw [e] at hi; cases hi; exact ⟨cur, e3⟩
  obtain ⟨a, c, rfl⟩ := own_slice h1
  refine ⟨xs, a, c, rfl, h2.1, Soft.of (h2.mono (fun x f e => e.1)) hf, fun i hi => (hin i hi).1, fun k hk => ?_⟩
  rcases h1.2 with ⟨e, e2⟩ | ⟨g, cap, cur, e, _, e3, _⟩
  · omega
  · cases e
    obtain ⟨x, e1, _⟩ := h2.at hk
    refine ⟨g, x, rfl, (h1.lt g rfl).2, fun t => ?_, List.mem_of_getElem? e1, by rw [h1.cellAt k (by omega)]; exact e1⟩
    obtain ⟨_, cs, hcs⟩ := hin g t
    rw [hcs] at e3
    injection e3 with e3
    injection e3 with _ e4
    exact absurd e4 (by decide)
set_option maxRecDepth 100000 in
set_option maxHeartbeats 1000000 in
theorem feeds_walk (a : Option Addr) (n c : Nat) (fs : List (List Int)) (w : World) (h : Lst w a n fs) (hm : ∀ f ∈ fs, f.length ≤ 1048576) (hn : n ≤ 1048576) :
    Calls Try.prog 3 #[.slice a n c] w fun e w' => e = .returned (.bool true) ∧ After w w' := by
  have HL := hideIt h
  have HM : Hid (∀ i, (fs.getD i []).length ≤ 1048576) := fun i => by
    by_cases hi : i < fs.length
    · have := hm (fs.getD i []) (by simp [List.getD_eq_getElem?_getD, hi])
      exact this
    · simp [List.getD_eq_getElem?_getD, List.getElem?_eq_none (show fs.length ≤ i by omega)]
  clear h hm
  go_enter Try.func3, Try.ntmps3
  go_wp2_with fail
  refine (new_any _).mono ?_
  rintro e w1 ⟨rfl, d1, a1⟩
  have D1 := hideIt d1
  have A1 := hideIt a1
  clear d1 a1
  go_wp2_with fail
  refine (refNew_any _).mono ?_
  rintro e w2 ⟨rfl, d2, a2⟩
  have l1 := D1.out.lt
  have B2 := hideIt (show Both w w2 w.heap.size w.heap.size w1.heap.size w1.heap.size [] from ⟨D1.out.after a2, d2, by omega, by omega, by omega, A1.out.trans a2, Nat.le_refl _, Nat.le_refl _, A1.out.size, A1.out.size⟩)
  clear d2 a2 D1 A1 l1
  obtain ⟨g, hg⟩ : ∃ g, g = w.heap.size := ⟨_, rfl⟩
  rw [← hg] at B2 ⊢
  have HG := hideIt hg
  clear hg
  generalize w1.heap.size = g' at *
  go_wp2_with fail
  go_loopw [5] (fun i W => ∃ (k h h' : Nat) (us : List Int), k ≤ n ∧ k ≤ 60 ∧ i = .int .i64 k ∧ Both w W g h g' h' us ∧ us.length ≤ 260) (fun i _ => 60 - (intOf i).toNat)
  case atStart => exact ⟨0, g, g', [], by omega, by omega, rfl, by have := B2.out; rw [HG.out] at this ⊢; exact this, by simp⟩
  case round =>
    obtain ⟨k, hh, hh', us, hk, hk6, rfl, hB, hu⟩ := hrel
    by_cases hlt : k < n
    · by_cases hl6 : k < 60
      · have hml := HM.out k
        obtain ⟨b, off, a1, c1, rfl, g1, e0, r1, n1, l1, m1⟩ := HL.out.at hlt
        obtain ⟨ys, hys⟩ : ∃ ys, ys = fs.getD k [] := ⟨_, rfl⟩
        rw [← hys] at e0 r1 n1 l1 m1 hml
        obtain ⟨m, hm⟩ : ∃ m, m = ys.length := ⟨_, rfl⟩
        rw [← hm] at e0 r1 n1 l1 m1 hml
        have e1 : wr.cell? ⟨b, off + k, none⟩ = some (.slice a1 m c1) := by rw [hB.aft.cell g1]; exact e0
        have HC := hideIt (copy_any a1 m c1 ys wr (r1.after hB.aft) n1 m1)
        have HRM := hideIt (show us.length + m ≤ 140737488355328 by omega)
        have HRF := hideIt (fed_room hu (show ys.length ≤ 1048576 by omega))
        have HRL := hideIt (rst_len (us ++ ys))
        have HBOD := hideIt (fed_bodies (us ++ ys))
        have HFL := hideIt (show (frs (us ++ ys)).length ≤ 140737488355328 by have := HRF.out; omega)
        have HDL := hideIt (show drp (us ++ ys) ≤ 140737488355328 by have := drp_le (us ++ ys); rw [List.length_append] at this; omega)
        have R0 := hideIt r1
        have E0 := hideIt e0
        have N1 := hideIt n1
        have M1 := hideIt m1
        have HB := hideIt hB
        have hki : (k : Int) < (n : Int) := by omega
        have hk60 : (k : Int) < 60 := by omega
        clear r1 n1 l1 hB hys hm hu e0 m1
        go_wp2_with fail
        refine HC.out.mono ?_
        rintro e w3 ⟨v3, rfl, o3, a3⟩
        obtain ⟨p3, q3, rfl, r3, n3, k3, j3⟩ := own_row o3 R0.out.2.1
        have HB3 := hideIt (HB.out.after a3)
        have O3 := hideIt o3
        have J3 : Hid (∀ x, p3 = some x → wr.heap.size ≤ x.block ∧ x.block < w3.heap.size) := fun x hx => o3.lt _ (j3 x hx).1
        have HF := hideIt (feed_any w3 g hh us p3 m q3 ys HB3.out.df r3 n3 HRM.out HRF.out)
        have S3 := hideIt a3.size
        have HBL := hideIt HB.out.df.lt
        have WS := hideIt HB.out.aft.size
        have RB := hideIt R0.out.2.1
        have HBL2 := hideIt HB.out.rf.lt
        clear r3 o3 a3 n3 k3 j3 HC e1 HB
        obtain ⟨T, hT⟩ : ∃ T, T = us ++ ys := ⟨_, rfl⟩
        have HT := hideIt hT
        rw [← hT] at HF
        go_wp2_with fail
        refine HF.out.mono ?_
        rintro e w4 ⟨v4, h4, rfl, _, d4, ⟨M0, f40, lm0, l40⟩, b4⟩
        obtain ⟨M, mw, lm, l4, f4⟩ : ∃ M, M ≤ w4.heap.size ∧ w3.heap.size ≤ M ∧ (h4 = g ∨ M ≤ h4) ∧ FrsM w4 w3.heap.size M v4 (frs T) :=
          ⟨min M0 w4.heap.size, Nat.min_le_right _ _, by have := b4.size; omega, l40.imp_right (fun h => by omega), f40.cap⟩
        have LM := hideIt lm
        have MW := hideIt mw
        clear lm mw f40 lm0 l40
        have hA4 : After w w4 := HB3.out.aft.then b4 (fun i hi t => by have t2 : i = g := t; have := HG.out; omega)
        have e4 : w4.cell? ⟨b, off + k, none⟩ = some (.slice a1 m c1) := by rw [hA4.cell g1]; exact E0.out
        have HRFE := hideIt (refFeed_any w4 g' hh' us a1 m c1 ys (HB3.out.rf.but b4 (fun t => HB3.out.gg (Eq.symm t)) (fun t => HB3.out.gh (Eq.symm t))) (R0.out.after hA4) N1.out HRM.out HRF.out)
        rw [← hT] at HRFE
        have F4 := hideIt f4
        have D4 := hideIt d4
        have L4 := hideIt l4
        have B4 := hideIt b4
        have O4 := hideIt (own_but O3.out b4 (fun i hi t => by
          have t2 : i = g := t
          have h1 := (O3.out.lt i hi).1
          have h2 := HBL.out.1
          omega))
        obtain ⟨xs4, f4a, _⟩ := f4
        obtain ⟨p4, q4, rfl⟩ := own_slice f4a
        clear f4a d4 l4 b4 hA4 HF O3
        rw [← hT] at HRF HRL HBOD HFL HDL
        clear hT
        go_wp2_with fail
        refine HRFE.out.mono ?_
        rintro e w5 ⟨v5, h5, rfl, f5, d5, l5, b5⟩
        have HB5 := hideIt (HB3.out.feed D4.out (L4.out.imp_right (fun x3 => Nat.le_trans LM.out x3)) B4.out d5 l5 b5)
        have F5 := hideIt (F4.out.but b5 (fun i hi t => by
          have t2 : i = g' := t
          have h2 := HB3.out.rf.lt.1
          omega))
        have O5 := hideIt (own_but O4.out b5 (fun i hi t => by
          have t2 : i = g' := t
          have h1 := (O4.out.lt i hi).1
          have h2 := HBL2.out.1
          omega))
        have F5R := hideIt f5
        have L5 := hideIt l5
        have S4 := hideIt B4.out.size
        have S5 := hideIt b5.size
        obtain ⟨xs5, f5a, _⟩ := f5
        obtain ⟨p5, q5, rfl⟩ := own_slice f5a
        obtain ⟨pa, qa, ea, la⟩ := (F5.out.frs.gat (fun f hf => by have := HBOD.out f hf; omega)).lst
        cases ea
        obtain ⟨pb, qb, eb, lb⟩ := (F5R.out.gat (fun f hf => by have := HBOD.out f hf; omega)).lst
        cases eb
        have HSA := hideIt (refSame_any p4 p5 _ q4 q5 _ w5 la lb HFL.out)
        clear f5a d5 l5 b5 la lb HRFE F4 D4 O4 HB3 e4 F5R
        obtain ⟨F, hF⟩ : ∃ F, F = frs T := ⟨_, rfl⟩
        rw [← hF] at HSA F5 HBOD HFL ⊢
        obtain ⟨dd, hdd⟩ : ∃ dd, dd = drp T := ⟨_, rfl⟩
        rw [← hdd] at HDL ⊢
        obtain ⟨N, hN⟩ : ∃ N, N = F.length := ⟨_, rfl⟩
        rw [← hN] at HSA HFL ⊢
        have HNN := hideIt hN
        clear hdd hF hN
        go_wp2_with fail
        refine HSA.out.mono ?_
        rintro e w6 ⟨rfl, a6⟩
        have HB6 := hideIt (HB5.out.after a6)
        have F6 := hideIt (F5.out.after a6)
        have O6 := hideIt (own_after O5.out a6)
        have S6 := hideIt a6.size
        clear a6 HB5 F5 O5 HSA
        go_wp2_with fail
        refine (pending_any _ _ _ _ HB6.out.df).mono ?_
        rintro e w7 ⟨rfl, rfl⟩
        go_wp2_with fail
        refine (refPending_any _ _ _ _ HB6.out.rf).mono ?_
        rintro e w8 ⟨rfl, rfl⟩
        have e8 : w8.cell? ⟨b, off + k, none⟩ = some (.slice a1 m c1) := by rw [HB6.out.aft.cell g1]; exact E0.out
        obtain ⟨p3', q3', e3', r8, _, _, _⟩ := own_row O6.out R0.out.2.1
        cases e3'
        have HEQ := hideIt (eqBytes_same p3 a1 m q3 c1 ys w8 r8 (R0.out.after HB6.out.aft) M1.out)
        generalize hRR : (rst T).length = R at *
        clear r8
        go_wp2_with fail
        refine HEQ.out.mono ?_
        rintro e w9 ⟨rfl, a9⟩
        have HB9 := hideIt (HB6.out.after a9)
        have F9 := hideIt (F6.out.after a9)
        have O9 := hideIt (own_after O6.out a9)
        have S9 := hideIt a9.size
        clear a9 HB6 F6 O6 HEQ e8 R0 E0 N1 M1 HRM HRF HDL
        obtain ⟨B0, hB0⟩ : ∃ B0, B0 = wr.heap.size := ⟨_, rfl⟩
        have hw0 : w.heap.size ≤ wr.heap.size := WS.out
        rw [← hB0] at O9 J3 S3 HBL HBL2 hw0
        have W0 := hideIt hw0
        clear hB0 hw0 WS
        go_wp2_with fail
        go_loopw [13] (fun i W => ∃ (j : Nat) (zs : List Int), j ≤ m ∧ i = .int .i64 j ∧ W.ownsRow B0 5 1 (.slice p3 m q3) m (u8s zs) ∧ Bs zs ∧ But (BlkOf p3) w9 W) (fun i _ => m - (intOf i).toNat)
        case atStart => exact ⟨0, ys, Nat.zero_le _, rfl, O9.out, RB.out, But.rfl⟩
        case round =>
          obtain ⟨j, zs, hj, rfl, ho, hb, hX⟩ := hrel
          by_cases hjm : j < m
          · obtain ⟨gg, x, rfl, c2, lx, f2, g2, g3, hnext⟩ := own_round ho hb hjm
            obtain ⟨y, ho2, hy, hb2⟩ := hnext _ (xor_byte x lx)
            have N1 := hideIt ho2
            have N2 := hideIt hy
            have N3 := hideIt (hX.then hb2 (S := BlkOf (some ⟨gg, 0, none⟩)) (fun i _ t => ⟨_, rfl, Eq.symm t⟩))
            have hji : (j : Int) < (m : Int) := by omega
            clear ho hb hX hnext ho2 hy hb2
            go_wp2
            go_roundw
            case rel => exact ⟨j + 1, y, by omega, by go_num, N1.out, N2.out, N3.out⟩
            case measure => simp [intOf]; omega
          · obtain rfl : j = m := by omega
            have hin : ∀ i, BlkOf p3 i → B0 ≤ i ∧ i < w3.heap.size := fun i ⟨x, hx, e⟩ => by
              have := J3.out x hx
              omega
            have HB10 := hideIt (HB9.out.but hX (fun i t => by
              have h1 := hin i t
              have h2 := W0.out
              have h3 := HBL.out
              have h4' := HBL2.out
              have h5' := L4.out
              have h6 := L5.out
              have h7 := LM.out
              have h8 := S4.out
              omega))
            have F10 := hideIt (F9.out.but hX (fun i hi t => by have := hin i t; omega))
            clear ho hb hX hin
            obtain ⟨xs, ax, cx, ex, hxl, hsoft, hinn, hcell⟩ := frs_open F10.out HBOD.out
            rw [← HNN.out] at ex hcell
            cases ex
            have HSO := hideIt hsoft
            have HIN := hideIt hinn
            have HCE := hideIt hcell
            obtain ⟨wa, hwa⟩ : ∃ wa, wa = wr := ⟨_, rfl⟩
            rw [← hwa] at HB10 HSO HCE ⊢
            clear hsoft hinn hcell hwa F10 F9 O9 hxl
            have hNb := HFL.out
            go_wp2_with fail
            go_loopw [14] (fun i W => ∃ (j : Nat), j ≤ N ∧ i = .int .i64 j ∧ Soft W xs ∧ But (Inn xs) wa W) (fun i _ => N - (intOf i).toNat)
            case atStart => exact ⟨0, Nat.zero_le _, rfl, HSO.out, But.rfl⟩
            case round =>
              obtain ⟨t, ht, rfl, hso, hX⟩ := hrel
              by_cases htN : t < N
              · obtain ⟨gv, x, rfl, v1, v2, v3, v4⟩ := HCE.out t htN
                obtain ⟨gx, nx, cx2, rfl, hby, hnx⟩ := hso x v3
                have htI : (t : Int) < (N : Int) := by omega
                have ht0 : (0 : Int) ≤ (t : Int) := by omega
                have V1 := hideIt v1
                have V2 := hideIt v2
                have V3 := hideIt v3
                have V4 := hideIt v4
                have HSO1 := hideIt hso
                have HX1 := hideIt hX
                have hct : wr.cell? ⟨gv, t, none⟩ = some (.slice (some ⟨gx, 0, none⟩) nx cx2) := by rw [hX.cell v1 v2]; exact v4
                clear hso hX hby v1 v2 v3 v4
                go_wp2_with fail
                go_loopw [15] (fun i W => ∃ (q : Nat), q ≤ nx ∧ i = .int .i64 q ∧ Soft W xs ∧ But (Inn xs) wa W) (fun i _ => nx - (intOf i).toNat)
                case atStart => exact ⟨0, Nat.zero_le _, rfl, HSO1.out, HX1.out⟩
                case round =>
                  obtain ⟨q, hq, rfl, hso, hX⟩ := hrel
                  have hct2 : wr.cell? ⟨gv, t, none⟩ = some (.slice (some ⟨gx, 0, none⟩) nx cx2) := by rw [hX.cell V1.out V2.out]; exact V4.out
                  by_cases hqn : q < nx
                  · obtain ⟨gx', nx', cx', ex, hby, _⟩ := hso _ V3.out
                    cases ex
                    obtain ⟨x, lx, c5, f5⟩ := hby.at hqn
                    have hgne : gv ≠ gx := fun e => V2.out ⟨_, V3.out, by rw [e]; rfl⟩
                    have hqi : (q : Int) < (nx : Int) := by omega
                    have hq0 : (0 : Int) ≤ (q : Int) := by omega
                    have NS := hideIt (hso.set gx q (xor_byte x lx))
                    have NB := hideIt (hX.then (But.own1 wr gx q (.int .u8 (bits .xor .u8 (x : Int) 90))) (S := Inn xs) (fun i _ t2 => ⟨_, V3.out, by have t3 : i = gx := t2; rw [t3]; rfl⟩))
                    clear hso hX hby hct
                    go_wp2
                    go_region
                    go_wp2
                    go_roundw
                    case rel => exact ⟨q + 1, by omega, by go_num, NS.out, NB.out.drew⟩
                    case measure => simp [intOf]; omega
                  · obtain rfl : q = nx := by omega
                    have NS := hideIt hso
                    have NB := hideIt hX
                    clear hso hX hct
                    go_wp2
                    go_roundw
                    case rel => exact ⟨t + 1, by omega, by go_num, NS.out, NB.out⟩
                    case measure => simp [intOf]; omega
              · obtain rfl : t = N := by omega
                have HBE := hideIt (HB10.out.but hX (fun i t2 => by
                  have h1 := HIN.out i t2
                  have h2 := W0.out
                  have h3 := HBL.out
                  have h4' := HBL2.out
                  have h5' := L4.out
                  have h6 := L5.out
                  have h7 := LM.out
                  have h8 := S4.out
                  have h9 := S3.out
                  have h10 := MW.out
                  omega))
                clear hso hX
                go_wp2
                go_roundw
                case rel => exact ⟨k + 1, h4, h5, rst T, by omega, by omega, by go_num, HBE.out, by have := HRL.out; omega⟩
                case measure => simp [intOf]; omega
      · have hk60 : ¬ (k : Int) < 60 := by omega
        have HA := hideIt hB.aft
        clear hB
        go_wp2_with fail
        refine (awake_any _).mono ?_
        rintro e w3 ⟨rfl, a3⟩
        have A3 := hideIt (HA.out.trans a3)
        clear a3
        go_wp2
        go_ret
        exact ⟨rfl, A3.out⟩
    · have hki : ¬ (k : Int) < (n : Int) := by omega
      have HA := hideIt hB.aft
      clear hB
      go_wp2_with fail
      refine (awake_any _).mono ?_
      rintro e w3 ⟨rfl, a3⟩
      have A3 := hideIt (HA.out.trans a3)
      clear a3
      go_wp2
      go_ret
      exact ⟨rfl, A3.out⟩
end Go.Proofs.Ytmdbpoknehafaaa
