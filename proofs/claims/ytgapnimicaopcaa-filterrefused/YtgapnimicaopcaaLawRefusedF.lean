/-
  FilterRefused walked: a step that is refused leaves all as it was.
-/
import Derived.Test.YtgapnimicaopcaaLawForgets
import Derived.Test.YtgapnimicaopcaaFiK
namespace Go.Proofs.Ytgapnimicaopcaa
open Go.RowKit
set_option maxRecDepth 8000
/-- Where a refused step leaves all as it was. -/
theorem Ts.go_no {c : Cf} {s : Ts} {t : Int} {l : List Rl} (h : s.err t l ≠ 0) : s.go c t l = s := by unfold Ts.go; rw [if_neg h]
/-- A step that is refused: what it answers, what stands then. -/
theorem step_no {w : World} {p : Nat} {S : Nat → Prop} {c : Cf} {s : Ts} (x : Tk w p S c s) (t : Int) (a : Option Addr) (n d : Nat) (l : List Rl) (hr : RRow w a n l) (hna : ∀ y, a = some y → 0 < n → ¬ S y.block) {E : Int} (he : s.err t l = E) (h0 : E ≠ 0) : Calls Try.prog 14 #[Ptr p, .int .i64 t, .slice a n d] w fun e w' => ∃ r v S', e = .returned (.tuple #[.agg #[.int .i64 r, .int .i64 v], .int .i64 E]) ∧ Tk w' p S' c s ∧ (∀ i, S' i → S i ∨ w.heap.size ≤ i) ∧ But S w w' := by
  refine (step_any x t a n d l hr hna).mono ?_
  rintro e w' ⟨rfl, S', h1, h2, h3⟩
  rw [Ts.go_no (by rw [he]; exact h0)] at h1
  rw [he]
  exact ⟨_, _, S', rfl, h1, h2, h3⟩
/-- An operation that makes new memory and is none of the four. -/
theorem StW.keepA {i1 i2 i3 i4 : Nat} {w0 : World} {p : Nat} {S : Nat → Prop} {c : Cf} {s s' : Ts} {R : Rd} {n : Nat} {l : List Rl} {T : Tab} {k : Nat} {v : Value} {L : Nat → Bool} {u : Nat → Value} {w w' : World} (x : StW i1 i2 i3 i4 w0 p S c s s' R n l L u w) (h1 : i1 ≠ k) (h2 : i2 ≠ k) (h3 : i3 ≠ k) (h4 : i4 ≠ k) (d1 : T.D i1 ≠ T.D k) (d3 : T.D i3 ≠ T.D k) (a : After w w') : StW i1 i2 i3 i4 w0 p S c s s' R n l (more L k) (T.set k v u) w' := by
  have e1 : T.set k v u i1 = u i1 := if_neg d1
  have e3 : T.set k v u i3 = u i3 := if_neg d3
  refine ⟨?_, ?_, x.bw.then a (fun _ _ t => t.elim), ?_, ?_, ?_, ?_⟩
  · rw [more_ne L h1, more_ne L h2]; exact x.ord
  · rw [more_ne L h4, more_ne L h3, more_ne L h2]; exact x.ord2
  · rw [more_ne L h2]; intro h; exact ⟨(x.tk0 h).1.after a, (x.tk0 h).2.trans a⟩
  · rw [more_ne L h2]; intro h
    obtain ⟨S', t, k⟩ := x.tk1 h
    exact ⟨S', t.after a, k⟩
  · rw [more_ne L h1, more_ne L h2, e1]; intro q1 q2
    obtain ⟨a', d, k1, k2, k3⟩ := x.cp q1 q2
    exact ⟨a', d, k1, k2.after a, k3⟩
  · rw [more_ne L h3, more_ne L h4, e3]; exact x.al_after a
/-- The list is loaded. -/
theorem StW.made2 {i1 i2 i3 i4 : Nat} {w0 : World} {p : Nat} {S : Nat → Prop} {c : Cf} {s s' : Ts} {R : Rd} {n : Nat} {l : List Rl} {T : Tab} {L : Nat → Bool} {u : Nat → Value} {w : World} {a : Option Addr} {d : Nat} (x : StW i1 i2 i3 i4 w0 p S c s s' R n l L u w) (hl : L i1 = false) (h2 : i2 ≠ i1) (h3 : i3 ≠ i1) (h4 : i4 ≠ i1) (d3 : T.D i3 ≠ T.D i1) (hr : RRow w a n l) (hna : ∀ y, a = some y → 0 < n → ¬ S y.block) : StW i1 i2 i3 i4 w0 p S c s s' R n l (more L i1) (T.set i1 (.slice a n d) u) w := by
  have hl2 : L i2 = false := by
    rcases h : L i2 with _ | _
    · rfl
    · rw [x.ord h] at hl; cases hl
  have e1 : T.set i1 (.slice a n d) u i1 = .slice a n d := if_pos rfl
  have e3 : T.set i1 (.slice a n d) u i3 = u i3 := if_neg d3
  refine ⟨?_, ?_, x.bw, ?_, ?_, ?_, ?_⟩
  · rw [more_ne L h2, hl2]; intro h; cases h
  · rw [more_ne L h4, more_ne L h3, more_ne L h2]; exact x.ord2
  · intro _; exact x.tk0 hl2
  · rw [more_ne L h2, hl2]; intro h; cases h
  · intro _ _; exact ⟨a, d, e1, hr, hna⟩
  · rw [more_ne L h3, more_ne L h4, e3]; exact x.al
def bad2 : List Rl := [⟨0, 5, 0⟩, ⟨9, 0, 0⟩]
theorem run_b9 (w : World) : (Instr.build 37 #[(0, .int .i64 9)]).run Try.prog w = .ok (.agg #[.int .i64 9, .int .i64 0, .int .i64 0]) w := by
  simp [go_sem]
theorem run_bs2 (w : World) : (Instr.buildSlice 33 2 #[(0, .agg #[.int .i64 0, .int .i64 5, .int .i64 0]), (1, .agg #[.int .i64 9, .int .i64 0, .int .i64 0])]).run Try.prog w = .ok (.slice (some ⟨w.heap.size, 0, none⟩) 2 2) (w.alloc (.cells (rls bad2).toArray 37)) := by kernel_rfl
theorem bad2_err {s : Ts} {t : Int} (h1 : s.next ≤ t) (h2 : t ≤ 2147483647) : s.err t bad2 = 2 := by
  unfold Ts.err
  rw [if_neg (by omega), if_neg (by decide), if_neg (by decide)]
/-- What stands at a round of FilterRefused. -/
structure Rfs (w4 : World) (p gz : Nat) (c : Cf) (s : Ts) (w : World) (S : Nat → Prop) : Prop where
  tk : Tk w p S c s
  lo : ∀ i, S i → w4.heap.size ≤ i
  nz : ¬ S gz
  z : w.heap[gz]? = some (.cells (rls (zeros 65)).toArray 37 (0, 0))
  aft : After w4 w
theorem Rfs.alloc {w4 : World} {p gz : Nat} {c : Cf} {s : Ts} {w : World} {S : Nat → Prop} (h : Rfs w4 p gz c s w S) (o : Obj) : Rfs w4 p gz c s (w.alloc o) S := ⟨h.tk.after (After.rfl.alloc _), h.lo, h.nz, old_blk (After.rfl.alloc _) h.z, h.aft.alloc _⟩
theorem Rfs.after {w4 : World} {p gz : Nat} {c : Cf} {s : Ts} {w w' : World} {S : Nat → Prop} (h : Rfs w4 p gz c s w S) (a : After w w') : Rfs w4 p gz c s w' S := ⟨h.tk.after a, h.lo, h.nz, old_blk a h.z, h.aft.trans a⟩
theorem Rfs.next {w4 : World} {p gz : Nat} {c : Cf} {s s' : Ts} {w w' : World} {S S' : Nat → Prop} (h : Rfs w4 p gz c s w S) (tk : Tk w' p S' c s') (hs : ∀ i, S' i → S i ∨ w.heap.size ≤ i) (b : But S w w') : Rfs w4 p gz c s' w' S' := by
  have hl := blk_lt h.z
  refine ⟨tk, fun i hi => ?_, fun hi => ?_, ?_, ?_⟩
  · rcases hs i hi with t | t
    · exact h.lo i t
    · have := h.aft.size; omega
  · rcases hs gz hi with t | t
    · exact h.nz t
    · omega
  · exact (b.block _ hl h.nz).trans h.z
  · exact h.aft.then b (fun i hi t => by have := h.lo i t; omega)
theorem Rfs.drawn {w4 : World} {p gz : Nat} {c : Cf} {s s' : Ts} {w w' : World} {S S' : Nat → Prop} (h : Rfs w4 p gz c s w S) (tk : Tk w' p S' c s') (hs : ∀ i, S' i → S i ∨ w.heap.size ≤ i) (b : But (fun i => S i ∨ w.heap.size ≤ i) w w') : Rfs w4 p gz c s' w' S' := by
  have hl := blk_lt h.z
  have hsz := h.aft.size
  refine ⟨tk, fun i hi => ?_, fun hi => ?_, ?_, ?_⟩
  · rcases hs i hi with t | t
    · exact h.lo i t
    · omega
  · rcases hs gz hi with t | t
    · exact h.nz t
    · omega
  · exact (b.block _ hl (fun t => by rcases t with t | t; exact h.nz t; omega)).trans h.z
  · exact h.aft.then b (fun i hi t => by rcases t with t | t; (have := h.lo i t; omega); omega)
theorem Rfs.many {w4 : World} {p gz : Nat} {c : Cf} {s : Ts} {w : World} {S : Nat → Prop} (h : Rfs w4 p gz c s w S) {t : Int} (h1 : s.next ≤ t) (h2 : t ≤ 2147483647) : Calls Try.prog 14 #[Ptr p, .int .i64 t, .slice (some ⟨gz, 0, none⟩) 65 65] w fun e w' => ∃ r v S', e = .returned (.tuple #[.agg #[.int .i64 r, .int .i64 v], .int .i64 6]) ∧ Rfs w4 p gz c s w' S' := by
  have he : s.err t (zeros 65) = 6 := by unfold Ts.err; rw [if_neg (by omega), if_pos (by decide)]
  refine (step_no h.tk t (some ⟨gz, 0, none⟩) 65 65 (zeros 65) (rrow_blk h.z) (fun y hy _ => by cases hy; exact h.nz) he (by decide)).mono ?_
  rintro e w' ⟨r, v, S', rfl, a1, a2, a3⟩
  exact ⟨r, v, S', rfl, h.next a1 a2 a3⟩
theorem Rfs.early {w4 : World} {p gz : Nat} {c : Cf} {s : Ts} {w : World} {S : Nat → Prop} (h : Rfs w4 p gz c s w S) (h1 : 0 ≤ s.next) : Calls Try.prog 14 #[Ptr p, .int .i64 (-1), .slice none 0 0] w fun e w' => ∃ r v S', e = .returned (.tuple #[.agg #[.int .i64 r, .int .i64 v], .int .i64 9]) ∧ Rfs w4 p gz c s w' S' := by
  have he : s.err (-1) [] = 9 := by unfold Ts.err; rw [if_pos (by omega)]
  refine (step_no h.tk (-1) none 0 0 [] (RRow.nil _ _) (fun y hy _ => by cases hy) he (by decide)).mono ?_
  rintro e w' ⟨r, v, S', rfl, a1, a2, a3⟩
  exact ⟨r, v, S', rfl, h.next a1 a2 a3⟩
set_option maxHeartbeats 4000000 in
theorem law_refusedF (w : World) (k n st : Int) (hk : -9223372036854775808 ≤ k ∧ k ≤ 9223372036854775807) (hn : -9223372036854775808 ≤ n ∧ n ≤ 9223372036854775807) (hst : -9223372036854775808 ≤ st ∧ st ≤ 9223372036854775807) (a : Option Addr) (m d : Nat) (zs : List Stp) (hr : SRow w a m zs) (hb : ∀ x ∈ zs, -9223372036854775808 ≤ x.tick ∧ x.tick ≤ 9223372036854775807) (ga : Option Addr) (gn gd : Nat) (gs : List Stp) (hgr : SRow w ga gn gs) (_hgb : ∀ x ∈ gs, -9223372036854775808 ≤ x.tick ∧ x.tick ≤ 9223372036854775807) :
    Calls Try.prog 6 #[fVal k n st, .slice a m d, .slice ga gn gd] w fun e w' => e = .returned (.bool true) ∧ After w w' := by
  have HMay := hideIt (fun W (aW : After w W) => may_any W k n st hk hn hst a m d zs (hr.after aW) hb)
  have hc := mayC_ok k n st
  generalize mayC k n st = c at *
  have HC := hideIt hc
  have HG := hideIt hgr
  clear hk hn hst hr hb hc hgr
  go_enter Try.func6, Try.ntmps6
  go_wp2_with fail
  refine (works_any _).mono ?_
  rintro e w1 ⟨rfl, a1⟩
  have hb1 := old_blk a1 (heap_alloc_new w _)
  have k0 := blk_cell hb1 (i := 0) rfl
  have k1 := blk_cell hb1 (i := 1) rfl
  have k2 := blk_cell hb1 (i := 2) rfl
  have HB := hideIt (And.intro hb1 ((After.rfl.alloc _).trans a1))
  clear hb1 a1
  go_wp2_with fail
  refine (HMay.out _ HB.out.2).mono ?_
  rintro e w2 ⟨v, xs, rfl, own, hall, hf, h60, h8, a2⟩
  have hb2 := old_blk a2 HB.out.1
  have q0 := blk_cell hb2 (i := 0) rfl
  have q1 := blk_cell hb2 (i := 1) rfl
  have q2 := blk_cell hb2 (i := 2) rfl
  have f0 := blk_soft hb2 0
  have f1 := blk_soft hb2 1
  have f2 := blk_soft hb2 2
  have HM := hideIt (mde_store (c := c) rfl HB.out.1 HB.out.2 own hall hf h60 h8 a2)
  clear own hall hf h60 h8 a2 hb2 k0 k1 k2 HMay
  generalize hW : World.setCell (World.setCell (World.setCell w2 _ _) _ _) _ _ = w3 at HM
  obtain ⟨sa, sc, rfl, srow, _, _⟩ := own_srow HM.out.own (fun x hx => (HM.out.all x hx).in_)
  obtain ⟨N, hN⟩ : ∃ N, xs.length = N := ⟨_, rfl⟩
  rw [hN] at srow
  have HSr := hideIt (And.intro srow hN)
  have hN60 : (N : Int) ≤ 60 := by have := HM.out.few; omega
  have HLow := hideIt (blk_lt HM.out.at0)
  rw [hN]
  clear srow hN
  have HRun := hideIt (run_ok w3 c HC.out sa N sc xs HSr.out.1 (by omega) HM.out.fine)
  have g0 := blk_cell HM.out.at0 (i := 0) rfl
  have g1 := blk_cell HM.out.at0 (i := 1) rfl
  have g2 := blk_cell HM.out.at0 (i := 2) rfl
  go_wp2_with fail
  refine HRun.out.mono ?_
  rintro e w4 ⟨v4, rfl, od, a4⟩
  have hol : (Ts.new.outs c xs).length = N := by rw [Ts.outs_length]; exact HSr.out.2
  obtain ⟨oa, oc, rfl, drow⟩ := own_drow od
  rw [hol] at drow
  have hat4 := old_blk a4 HM.out.at0
  have d0 := blk_cell hat4 (i := 0) rfl
  have d1 := blk_cell hat4 (i := 1) rfl
  have d2 := blk_cell hat4 (i := 2) rfl
  have hlg4 := blk_lt hat4
  have HD := hideIt (And.intro drow a4)
  rw [hol]
  have HNew : Hid (∀ W, Calls Try.prog 13 #[.agg #[.int .i64 (c.k : Int), .int .i64 (c.n : Int), .int .i64 (c.st : Int)]] W fun e w' => ∃ p S, e = .returned (.tuple #[Ptr p, .int .i64 0]) ∧ Tk w' p S c Ts.new ∧ (∀ i, S i → W.heap.size ≤ i) ∧ After W w') := hideIt (fun W => filterNew_ok W c HC.out)
  clear od drow a4 hol HRun g0 g1 g2 q0 q1 q2 f0 f1 f2 hat4
  go_wp2_with fail
  refine (HNew.out _).mono ?_
  rintro e w5 ⟨p, S, rfl, tk, hS, a5⟩
  have HT := hideIt (And.intro tk (And.intro hS a5))
  clear tk hS a5 d0 d1 d2 HNew hlg4
  have hmk := make65
  go_wp2_with fail
  clear hmk
  go_loopw [12] (fun i wr => ∃ (j : Nat) (S : Nat → Prop), j ≤ N ∧ i = .int .i64 j ∧ Rfs w4 p w5.heap.size c (Ts.new.run c (xs.take j)) wr S) (fun i _ => N - (intOf i).toNat)
  case atStart =>
    obtain ⟨tk, hS, a5⟩ := HT.out
    exact ⟨0, S, Nat.zero_le _, rfl, tk.after (After.rfl.alloc _), hS, (fun h => absurd (tk.lt _ h) (Nat.lt_irrefl _)), heap_alloc_new _ _, a5.alloc _⟩
  case round =>
    obtain ⟨j, S2, hj, rfl, rf⟩ := hrel
    by_cases hjn : j < N
    · have i1 : (j : Int) < (N : Int) := by omega
      obtain ⟨b, off, x, hsa, hbl, hx, l0, l1, hin⟩ := HSr.out.1.at_ hjn
      cases hsa
      have a34 : After w3 wr := HD.out.2.trans rf.aft
      have l0' := (a34.cell hbl _).trans l0
      have hlt : b < wr.heap.size := Nat.lt_of_lt_of_le hbl a34.size
      have hnx := HM.out.fine.next c hx
      have hhi := HM.out.fine.hi j x hx
      have hn0 : 0 ≤ (Ts.new.run c (xs.take j)).next := by
        rcases j with _ | j
        · exact Int.le_refl _
        · have hy : xs[j]? = some (xs[j]'(by rw [HSr.out.2]; omega)) := List.getElem?_eq_getElem _
          rw [Ts.run_succ c _ hy, Ts.step_next]
          have := HM.out.fine.lo j _ hy
          omega
      obtain ⟨sj, hsj⟩ : ∃ sj, Ts.new.run c (xs.take j) = sj := ⟨_, rfl⟩
      rw [hsj] at rf hnx hn0
      have HX := hideIt (And.intro hx (And.intro hin (And.intro hbl (And.intro l0 (And.intro l1 (And.intro hsj (And.intro hnx (And.intro hhi hn0))))))))
      have H1 := hideIt (rf.many hnx hhi)
      clear l0 l1 hx hin hsj hnx hhi hn0 a34 rf
      go_wp2_with fail
      refine H1.out.mono ?_
      rintro e w6 ⟨r6, v6, S6, rfl, rf6⟩
      clear H1
      have H2 := hideIt (fun (o : Obj) => (rf6.alloc o).early HX.out.2.2.2.2.2.2.2.2)
      have R6 := hideIt rf6
      clear rf6 l0'
      go_wp2_with fail
      refine (H2.out _).mono ?_
      rintro e w7 ⟨r7, v7, S7, rfl, rf7⟩
      have R7 := hideIt rf7
      clear H2 rf7
      go_wp2_with fail
      generalize hw8 : World.alloc w7 _ = w8
      have R8f : Hid (Rfs w4 p w5.heap.size c sj w8 S7) := by rw [← hw8]; exact hideIt (R7.out.alloc _)
      clear hw8
      have HS8 := hideIt R8f.out.tk.lt
      have HCe : Hid (∀ W, But (fun i => S7 i ∨ w8.heap.size ≤ i) w8 W → W.cell? ⟨b, off + j * 2, none⟩ = some (.int .i64 x.tick)) := fun W bW => by
        have a38 := HD.out.2.trans R8f.out.aft
        have hb8 : b < w8.heap.size := Nat.lt_of_lt_of_le HX.out.2.2.1 a38.size
        have hb4 : b < w4.heap.size := Nat.lt_of_lt_of_le HX.out.2.2.1 HD.out.2.size
        exact ((bW.cell hb8 (fun h => by rcases h with h | h; exact absurd (R8f.out.lo b h) (by omega); omega) _).trans (a38.cell HX.out.2.2.1 _)).trans HX.out.2.2.2.1
      obtain ⟨R8, hR8⟩ : ∃ R, sj.out c x.tick bad2 = R := ⟨_, rfl⟩
      have he8 := bad2_err HX.out.2.2.2.2.2.2.1 HX.out.2.2.2.2.2.2.2.1
      have HE8 := hideIt (And.intro he8 (And.intro (Ts.go_no (c := c) (by rw [he8]; decide)) hR8))
      clear he8 hR8
      refine region_inv (by kernel_rfl) (Tab.J (⟨16, fun i => [72, 73, 74, 75, 76, 77, 78, 79, 80, 81, 71, 82, 83, 17, 1014, 18].getD i 0, fun i => ([some (Ptr p), some (.slice (some ⟨b, off, none⟩) N sc), some (.int .i64 (j : Int)), some (.pointer (some ⟨b, off + j * 2, none⟩)), some (.pointer (some ⟨b, off + j * 2, none⟩)), some (.int .i64 x.tick), some (.agg #[.int .i64 0, .int .i64 5, .int .i64 0]), some (.agg #[.int .i64 9, .int .i64 0, .int .i64 0]), none, some (.tuple #[.agg #[.int .i64 R8.s, .int .i64 R8.v], .int .i64 2]), some (.tuple #[.agg #[.int .i64 R8.s, .int .i64 R8.v], .int .i64 2]), some (.agg #[.int .i64 R8.s, .int .i64 R8.v]), some (.int .i64 2), none, none, some (.int .i64 2)] : List (Option Value)).getD i none, StW 8 9 13 14 w8 p S7 c sj sj R8 2 bad2⟩ : Tab) _) ⟨rfl, rfl, fun _ _ => rfl, (fun _ _ _ _ h => by cases h), StW.first R8f.out.tk⟩ ?_ ?_
      · exact ⟨inv_move (.inl rfl) rfl rfl rfl rfl rfl rfl rfl rfl (StW.keep (neB rfl) (neB rfl) (neB rfl) (neB rfl) (neB rfl) (neB rfl)) rfl,
          inv_move (.inl rfl) rfl rfl rfl rfl rfl rfl rfl rfl (StW.keep (neB rfl) (neB rfl) (neB rfl) (neB rfl) (neB rfl) (neB rfl)) rfl,
          inv_move (.inl rfl) rfl rfl rfl rfl rfl rfl rfl rfl (StW.keep (neB rfl) (neB rfl) (neB rfl) (neB rfl) (neB rfl) (neB rfl)) rfl,
          inv_index rfl rfl rfl rfl rfl rfl rfl rfl rfl (StW.keep (neB rfl) (neB rfl) (neB rfl) (neB rfl) (neB rfl) (neB rfl)) rfl rfl (fun w => indexS w _ _ _ _ _ i1),
          inv_field rfl rfl rfl rfl rfl rfl rfl rfl rfl (StW.keep (neB rfl) (neB rfl) (neB rfl) (neB rfl) (neB rfl) (neB rfl)) rfl (fun w => fieldS0 w _ _),
          inv_load rfl rfl rfl rfl rfl rfl rfl rfl rfl (StW.keep (neB rfl) (neB rfl) (neB rfl) (neB rfl) (neB rfl) (neB rfl)) rfl (fun L u w h => loadI (HCe.out w h.bw)),
          inv_call rfl rfl rfl rfl rfl rfl rfl rfl (enterP Try.func15 (by kernel_rfl) (by kernel_rfl)) (fun a w L hv hd hl h => by
            rw [show (#[Operand.const (.int .i64 5)] : Array Operand).map a.eval = #[.int .i64 5] from by simp [Act.eval]]
            refine (whole_any 5 w).mono ?_
            rintro e w2 ⟨rfl, rfl⟩
            exact ⟨_, rfl, (fun v' h' => by cases h'; rfl), h.keepA (neB rfl) (neB rfl) (neB rfl) (neB rfl) (neB rfl) (neB rfl) (After.rfl.alloc _)⟩),
          inv_val (r := fun a => Instr.build 37 #[(0, a.eval (.const (.int .i64 9)))]) rfl rfl rfl rfl rfl rfl rfl rfl (StW.keep (neB rfl) (neB rfl) (neB rfl) (neB rfl) (neB rfl) (neB rfl)) (fun a => by unfold execOp; simp) (fun a W hv => run_b9 W),
          inv_gen (r := fun a => Instr.buildSlice 33 2 #[(0, a.eval (.tmp 78)), (1, a.eval (.tmp 79))]) rfl rfl rfl rfl rfl rfl rfl (fun a => by unfold execOp; simp) (fun a W L hv hd hl h => by
            rw [hv (.tmp 78) _ rfl, hv (.tmp 79) _ rfl]
            exact ⟨_, _, run_bs2 W, (fun v' h' => by cases h'), h.made HS8.out hl (neB rfl) (neB rfl) (neB rfl) (neB rfl) (After.rfl.alloc _) ⟨_, _, rfl, rrow_blk (l := bad2) (heap_alloc_new W _), fun y hy => by cases hy; exact Nat.le_refl _⟩⟩),
          inv_call rfl rfl rfl rfl rfl rfl rfl rfl (enterP Try.func14 (by kernel_rfl) (by kernel_rfl)) (fun a w L hv hd hl h => by
            rw [show (#[Operand.tmp 72, Operand.tmp 77, Operand.tmp 80] : Array Operand).map a.eval = #[a.eval (.tmp 72), a.eval (.tmp 77), a.eval (.tmp 80)] from by simp, hv (.tmp 72) _ rfl, hv (.tmp 77) _ rfl]
            exact step_here HS8.out HE8.out.1 HE8.out.2.1 HE8.out.2.2 (neB rfl) (neB rfl) (neB rfl) (neB rfl) rfl (hd 8 rfl) hl h),
          inv_move (.inl rfl) rfl rfl rfl rfl rfl rfl rfl rfl (StW.keep (neB rfl) (neB rfl) (neB rfl) (neB rfl) (neB rfl) (neB rfl)) rfl,
          inv_extract rfl rfl rfl rfl rfl rfl rfl rfl rfl (StW.keep (neB rfl) (neB rfl) (neB rfl) (neB rfl) (neB rfl) (neB rfl)) rfl (fun w => run_extract0 _ _ w),
          inv_extract rfl rfl rfl rfl rfl rfl rfl rfl rfl (StW.keep (neB rfl) (neB rfl) (neB rfl) (neB rfl) (neB rfl) (neB rfl)) rfl (fun w => run_extract1 _ _ w),
          inv_alloc rfl rfl rfl rfl rfl rfl rfl rfl rfl run_allocReading (fun L u w hl h => h.alloc hl (neB rfl) (neB rfl) (neB rfl) (neB rfl)),
          inv_store rfl rfl rfl rfl rfl rfl rfl (fun L a w _ hd hl h => by
            obtain ⟨g, hg, hh, hW⟩ := h.store hl (hd 9 rfl) (hd 13 rfl) (neB rfl) (neB rfl) (neB rfl)
            refine ⟨_, ?_, hW⟩
            rw [show a.eval (.tmp 17) = Ptr g from hg]
            exact run_storeReading hh _ _),
          inv_move (.inr rfl) rfl rfl rfl rfl rfl rfl rfl rfl (StW.keep (neB rfl) (neB rfl) (neB rfl) (neB rfl) (neB rfl) (neB rfl)) rfl,
          trivial⟩
      intro a9 w9 L9 hL9 J9
      have e9 := J9.fin hL9 rfl
      have W9 := J9.other
      obtain ⟨g9, hg9, hge9, hb9⟩ := W9.al (hL9 13 (Nat.le_of_ble_eq_true rfl))
      obtain ⟨S9, tk9, hS9⟩ := W9.tk1 (hL9 9 (Nat.le_of_ble_eq_true rfl))
      have R9 := hideIt (R8f.out.drawn tk9 hS9 W9.bw)
      clear J9 W9 hb9 hge9 tk9 hS9
      rw [e9]
      clear e9
      generalize hv9 : Tab.u _ a9 = U9 at *
      simp only [Tab.puts, List.getD_cons_succ, List.getD_cons_zero, Option.getD_some, Option.getD_none, hg9, List.setIfInBounds_toArray, List.set_cons_succ, List.set_cons_zero, List.set_nil]
      clear hg9 hv9 hL9
      generalize U9 8 = v9
      clear U9 HCe HE8 HS8
      go_wp2_with fail
      have a39 : After w3 w9 := HD.out.2.trans R9.out.aft
      have x0 := (a39.cell HX.out.2.2.1 _).trans HX.out.2.2.2.1
      have hl9 : b < w9.heap.size := Nat.lt_of_lt_of_le HX.out.2.2.1 a39.size
      have A39 := hideIt a39
      clear a39
      by_cases hgn : j < gn
      · have n1 : (j : Int) < (gn : Int) := by omega
        obtain ⟨bz, offz, z, hga, hbz, hz, z0, z1, hzin⟩ := HG.out.at_ hgn
        have a09 : After w w9 := HM.out.aft.trans A39.out
        have z0' := (a09.cell hbz _).trans z0
        have hlz : bz < w9.heap.size := Nat.lt_of_lt_of_le hbz a09.size
        subst hga
        have HZ := hideIt (And.intro hbz (And.intro z0 (And.intro z1 (And.intro hzin a09))))
        clear hbz z0 z1 hzin a09 hz
        by_cases q1 : 0 ≤ z.tick
        · by_cases q2 : z.tick < x.tick
          · by_cases q3 : 0 < j
            · have q3' : (0 : Int) < (j : Int) := by omega
              obtain ⟨i, hi⟩ : ∃ i : Nat, j = i + 1 := ⟨j - 1, by omega⟩
              obtain ⟨b', off', y, hsa', hbl', hy, y0, y1, _⟩ := HSr.out.1.at_ (show i < N by omega)
              cases hsa'
              have y0' := (A39.out.cell hbl' _).trans y0
              have t1 : (j : Int) - 1 = (i : Int) := by omega
              have t2 : IntKind.i64.wrap ((j : Int) - 1) = (i : Int) := by rw [t1]; exact IntWalk.i64_in _ (by omega)
              have t3 : (i : Int) < (N : Int) := by omega
              have HI := hideIt hi
              clear y0 y1 hi
              by_cases q4 : z.tick ≤ y.tick
              · go_quiet (fail)
                go_wp2_with fail
                generalize hwz : World.drewN w9 _ = wz
                have Rz9 : Hid (Rfs w4 p w5.heap.size c sj wz S9) := by rw [← hwz]; exact hideIt (R9.out.after (After.rfl.draws _))
                have HZa : Hid (After w wz) := by rw [← hwz]; exact hideIt (HZ.out.2.2.2.2.trans (After.rfl.draws _))
                clear hwz
                have HSz := hideIt Rz9.out.tk.lt
                have HNz : Hid (∀ y, z.a = some y → 0 < z.n → ¬ S9 y.block) := fun y hy h0 h => by
                  obtain ⟨bb, oo, e1, e2⟩ := HZ.out.2.2.2.1.1.lt h0
                  rw [e1] at hy
                  cases hy
                  have e3 : w4.heap.size ≤ bb := Rz9.out.lo _ h
                  have e4 := (HM.out.aft.trans HD.out.2).size
                  omega
                have HCz : Hid (∀ W, But (fun i => S9 i ∨ wz.heap.size ≤ i) wz W → W.cell? ⟨bz, offz + j * 2, none⟩ = some (.int .i64 z.tick) ∧ W.cell? ⟨bz, offz + j * 2 + 1, none⟩ = some (.slice z.a z.n z.d) ∧ RRow W z.a z.n z.l) := fun W bW => by
                  have aW : After w W := HZa.out.then bW (fun i hi t => by
                    have e4 := (HM.out.aft.trans HD.out.2).size
                    have e5 := HZa.out.size
                    rcases t with t | t
                    · have := Rz9.out.lo _ t; omega
                    · omega)
                  exact ⟨(aW.cell HZ.out.1 _).trans HZ.out.2.1, (aW.cell HZ.out.1 _).trans HZ.out.2.2.1, HZ.out.2.2.2.1.1.after aW⟩
                obtain ⟨Rz, hRz⟩ : ∃ R, sj.out c z.tick z.l = R := ⟨_, rfl⟩
                have hez : sj.err z.tick z.l = 9 := by
                  have hn : sj.next = y.tick + 1 := by
                    rw [← HX.out.2.2.2.2.2.1, HI.out, Ts.run_succ c _ hy, Ts.step_next]
                  unfold Ts.err
                  rw [if_pos (by omega)]
                have HEz := hideIt (And.intro hez (And.intro (Ts.go_no (c := c) (by rw [hez]; decide)) hRz))
                clear hez hRz
                refine region_inv (by kernel_rfl) (Tab.J (⟨18, fun i => [138, 139, 140, 141, 142, 143, 144, 145, 146, 147, 148, 149, 137, 150, 151, 19, 1017, 20].getD i 0, fun i => ([some (Ptr p), some (.slice (some ⟨bz, offz, none⟩) gn gd), some (.int .i64 (j : Int)), some (.pointer (some ⟨bz, offz + j * 2, none⟩)), some (.pointer (some ⟨bz, offz + j * 2, none⟩)), some (.int .i64 z.tick), some (.slice (some ⟨bz, offz, none⟩) gn gd), some (.int .i64 (j : Int)), some (.pointer (some ⟨bz, offz + j * 2, none⟩)), some (.pointer (some ⟨bz, offz + j * 2 + 1, none⟩)), none, some (.tuple #[.agg #[.int .i64 Rz.s, .int .i64 Rz.v], .int .i64 9]), some (.tuple #[.agg #[.int .i64 Rz.s, .int .i64 Rz.v], .int .i64 9]), some (.agg #[.int .i64 Rz.s, .int .i64 Rz.v]), some (.int .i64 9), none, none, some (.int .i64 9)] : List (Option Value)).getD i none, StW 10 11 15 16 wz p S9 c sj sj Rz z.n z.l⟩ : Tab) _) ⟨rfl, rfl, fun _ _ => rfl, (fun _ _ _ _ h => by cases h), StW.first Rz9.out.tk⟩ ?_ ?_
                · exact ⟨inv_move (.inl rfl) rfl rfl rfl rfl rfl rfl rfl rfl (StW.keep (neB rfl) (neB rfl) (neB rfl) (neB rfl) (neB rfl) (neB rfl)) rfl,
                    inv_move (.inl rfl) rfl rfl rfl rfl rfl rfl rfl rfl (StW.keep (neB rfl) (neB rfl) (neB rfl) (neB rfl) (neB rfl) (neB rfl)) rfl,
                    inv_move (.inl rfl) rfl rfl rfl rfl rfl rfl rfl rfl (StW.keep (neB rfl) (neB rfl) (neB rfl) (neB rfl) (neB rfl) (neB rfl)) rfl,
                    inv_index rfl rfl rfl rfl rfl rfl rfl rfl rfl (StW.keep (neB rfl) (neB rfl) (neB rfl) (neB rfl) (neB rfl) (neB rfl)) rfl rfl (fun w => indexS w _ _ _ _ _ n1),
                    inv_field rfl rfl rfl rfl rfl rfl rfl rfl rfl (StW.keep (neB rfl) (neB rfl) (neB rfl) (neB rfl) (neB rfl) (neB rfl)) rfl (fun w => fieldS0 w _ _),
                    inv_load rfl rfl rfl rfl rfl rfl rfl rfl rfl (StW.keep (neB rfl) (neB rfl) (neB rfl) (neB rfl) (neB rfl) (neB rfl)) rfl (fun L u w h => loadI (HCz.out w h.bw).1),
                    inv_move (.inl rfl) rfl rfl rfl rfl rfl rfl rfl rfl (StW.keep (neB rfl) (neB rfl) (neB rfl) (neB rfl) (neB rfl) (neB rfl)) rfl,
                    inv_move (.inl rfl) rfl rfl rfl rfl rfl rfl rfl rfl (StW.keep (neB rfl) (neB rfl) (neB rfl) (neB rfl) (neB rfl) (neB rfl)) rfl,
                    inv_index rfl rfl rfl rfl rfl rfl rfl rfl rfl (StW.keep (neB rfl) (neB rfl) (neB rfl) (neB rfl) (neB rfl) (neB rfl)) rfl rfl (fun w => indexS w _ _ _ _ _ n1),
                    inv_field rfl rfl rfl rfl rfl rfl rfl rfl rfl (StW.keep (neB rfl) (neB rfl) (neB rfl) (neB rfl) (neB rfl) (neB rfl)) rfl (fun w => fieldS1 w _ _),
                    inv_gen (r := fun a => Instr.loadAt 33 (a.eval (.tmp 147))) rfl rfl rfl rfl rfl rfl rfl (fun a => by unfold execOp; simp) (fun a W L hv hd hl h => by
                      rw [hv (.tmp 147) _ rfl]
                      exact ⟨_, _, loadL (HCz.out W h.bw).2.1, (fun v' h' => by cases h'), h.made2 hl (neB rfl) (neB rfl) (neB rfl) (neB rfl) (HCz.out W h.bw).2.2 HNz.out⟩),
                    inv_call rfl rfl rfl rfl rfl rfl rfl rfl (enterP Try.func14 (by kernel_rfl) (by kernel_rfl)) (fun a w L hv hd hl h => by
                      rw [show (#[Operand.tmp 138, Operand.tmp 143, Operand.tmp 148] : Array Operand).map a.eval = #[a.eval (.tmp 138), a.eval (.tmp 143), a.eval (.tmp 148)] from by simp, hv (.tmp 138) _ rfl, hv (.tmp 143) _ rfl]
                      exact step_here HSz.out HEz.out.1 HEz.out.2.1 HEz.out.2.2 (neB rfl) (neB rfl) (neB rfl) (neB rfl) rfl (hd 10 rfl) hl h),
                    inv_move (.inl rfl) rfl rfl rfl rfl rfl rfl rfl rfl (StW.keep (neB rfl) (neB rfl) (neB rfl) (neB rfl) (neB rfl) (neB rfl)) rfl,
                    inv_extract rfl rfl rfl rfl rfl rfl rfl rfl rfl (StW.keep (neB rfl) (neB rfl) (neB rfl) (neB rfl) (neB rfl) (neB rfl)) rfl (fun w => run_extract0 _ _ w),
                    inv_extract rfl rfl rfl rfl rfl rfl rfl rfl rfl (StW.keep (neB rfl) (neB rfl) (neB rfl) (neB rfl) (neB rfl) (neB rfl)) rfl (fun w => run_extract1 _ _ w),
                    inv_alloc rfl rfl rfl rfl rfl rfl rfl rfl rfl run_allocReading (fun L u w hl h => h.alloc hl (neB rfl) (neB rfl) (neB rfl) (neB rfl)),
                    inv_store rfl rfl rfl rfl rfl rfl rfl (fun L a w _ hd hl h => by
                      obtain ⟨g, hg, hh, hW⟩ := h.store hl (hd 11 rfl) (hd 15 rfl) (neB rfl) (neB rfl) (neB rfl)
                      refine ⟨_, ?_, hW⟩
                      rw [show a.eval (.tmp 19) = Ptr g from hg]
                      exact run_storeReading hh _ _),
                    inv_move (.inr rfl) rfl rfl rfl rfl rfl rfl rfl rfl (StW.keep (neB rfl) (neB rfl) (neB rfl) (neB rfl) (neB rfl) (neB rfl)) rfl,
                    trivial⟩
                intro a8 w8z L8 hL8 J8
                have e8 := J8.fin hL8 rfl
                have W8 := J8.other
                obtain ⟨g8, hg8, hge8, hb8⟩ := W8.al (hL8 15 (Nat.le_of_ble_eq_true rfl))
                obtain ⟨Sz, tk8, hS8⟩ := W8.tk1 (hL8 11 (Nat.le_of_ble_eq_true rfl))
                have RZ := hideIt (Rz9.out.drawn tk8 hS8 W8.bw)
                clear J8 W8 hb8 hge8 tk8 hS8
                rw [e8]
                clear e8
                generalize hv8 : Tab.u _ a8 = U8 at *
                simp only [Tab.puts, List.getD_cons_succ, List.getD_cons_zero, Option.getD_some, Option.getD_none, hg8, List.setIfInBounds_toArray, List.set_cons_succ, List.set_cons_zero, List.set_nil]
                clear hg8 hv8 hL8
                generalize U8 10 = v8z
                clear U8 HCz HEz HSz HNz Rz9 HZa
                go_wp2_with fail
                generalize hw10 : w8z = w10
                have R10 : Hid (Rfs w4 p w5.heap.size c sj w10 Sz) := by rw [← hw10]; exact hideIt (RZ.out)
                clear hw10
                have HCe : Hid (∀ W, But (fun i => Sz i ∨ w10.heap.size ≤ i) w10 W → W.cell? ⟨b, off + j * 2, none⟩ = some (.int .i64 x.tick) ∧ W.cell? ⟨b, off + j * 2 + 1, none⟩ = some (.slice x.a x.n x.d)) := fun W bW => by
                  have a38 := HD.out.2.trans R10.out.aft
                  have hb8 : b < w10.heap.size := Nat.lt_of_lt_of_le HX.out.2.2.1 a38.size
                  have hb4 : b < w4.heap.size := Nat.lt_of_lt_of_le HX.out.2.2.1 HD.out.2.size
                  have hnb : ¬ (Sz b ∨ w10.heap.size ≤ b) := fun h => by
                    rcases h with h | h
                    · have := R10.out.lo b h; omega
                    · omega
                  exact ⟨((bW.cell hb8 hnb _).trans (a38.cell HX.out.2.2.1 _)).trans HX.out.2.2.2.1, ((bW.cell hb8 hnb _).trans (a38.cell HX.out.2.2.1 _)).trans HX.out.2.2.2.2.1⟩
                have herr := HM.out.fine.err c HX.out.1
                rw [HX.out.2.2.2.2.2.1] at herr
                obtain ⟨R, hR⟩ : ∃ R, sj.read c x.tick x.l = R := ⟨_, rfl⟩
                obtain ⟨s1, hs1⟩ : ∃ s1, sj.step c x.tick x.l = s1 := ⟨_, rfl⟩
                have hgo : sj.go c x.tick x.l = s1 := by unfold Ts.go; rw [if_pos herr]; exact hs1
                have hout : sj.out c x.tick x.l = R := by unfold Ts.out; rw [if_pos herr]; exact hR
                have hxn : x.n ≤ 5864062014634 := by have := HM.out.fine.few j x HX.out.1; have := HX.out.2.1.1.1; omega
                have hsb : ∀ i, Sz i → w3.heap.size ≤ i ∧ i < w10.heap.size := fun i hi => ⟨by have := R10.out.lo i hi; have := HD.out.2.size; omega, R10.out.tk.lt i hi⟩
                have HH := hideIt (And.intro herr (And.intro hgo (And.intro hout (And.intro hxn (And.intro hsb (And.intro hR hs1))))))
                have HIn := hideIt (And.intro HX.out.2.1 (HD.out.2.trans R10.out.aft))
                clear herr hgo hout hxn hsb hR hs1
                refine region_inv (by kernel_rfl) (Tab.J (⟨19, fun i => [155, 156, 157, 158, 159, 160, 161, 162, 163, 164, 165, 166, 167, 154, 168, 169, 21, 1017, 22].getD i 0, fun i => ([some (Ptr p), some (.slice (some ⟨b, off, none⟩) N sc), some (.int .i64 (j : Int)), some (.pointer (some ⟨b, off + j * 2, none⟩)), some (.pointer (some ⟨b, off + j * 2, none⟩)), some (.int .i64 x.tick), some (.slice (some ⟨b, off, none⟩) N sc), some (.int .i64 (j : Int)), some (.pointer (some ⟨b, off + j * 2, none⟩)), some (.pointer (some ⟨b, off + j * 2 + 1, none⟩)), some (.slice x.a x.n x.d), none, some (.tuple #[.agg #[.int .i64 (R).s, .int .i64 (R).v], .int .i64 0]), some (.tuple #[.agg #[.int .i64 (R).s, .int .i64 (R).v], .int .i64 0]), some (.agg #[.int .i64 (R).s, .int .i64 (R).v]), some (.int .i64 0), none, none, some (.int .i64 0)] : List (Option Value)).getD i none, StW 11 12 16 17 w10 p Sz c (sj) (s1) (R) x.n x.l⟩ : Tab) _) ⟨rfl, rfl, fun _ _ => rfl, (fun _ _ _ _ h => by cases h), StW.first R10.out.tk⟩ ?_ ?_
                · exact ⟨inv_move (.inl rfl) rfl rfl rfl rfl rfl rfl rfl rfl (StW.keep (neB rfl) (neB rfl) (neB rfl) (neB rfl) (neB rfl) (neB rfl)) rfl,
                    inv_move (.inl rfl) rfl rfl rfl rfl rfl rfl rfl rfl (StW.keep (neB rfl) (neB rfl) (neB rfl) (neB rfl) (neB rfl) (neB rfl)) rfl,
                    inv_move (.inl rfl) rfl rfl rfl rfl rfl rfl rfl rfl (StW.keep (neB rfl) (neB rfl) (neB rfl) (neB rfl) (neB rfl) (neB rfl)) rfl,
                    inv_index rfl rfl rfl rfl rfl rfl rfl rfl rfl (StW.keep (neB rfl) (neB rfl) (neB rfl) (neB rfl) (neB rfl) (neB rfl)) rfl rfl (fun w => indexS w _ _ _ _ _ i1),
                    inv_field rfl rfl rfl rfl rfl rfl rfl rfl rfl (StW.keep (neB rfl) (neB rfl) (neB rfl) (neB rfl) (neB rfl) (neB rfl)) rfl (fun w => fieldS0 w _ _),
                    inv_load rfl rfl rfl rfl rfl rfl rfl rfl rfl (StW.keep (neB rfl) (neB rfl) (neB rfl) (neB rfl) (neB rfl) (neB rfl)) rfl (fun L u w h => loadI (HCe.out w h.bw).1),
                    inv_move (.inl rfl) rfl rfl rfl rfl rfl rfl rfl rfl (StW.keep (neB rfl) (neB rfl) (neB rfl) (neB rfl) (neB rfl) (neB rfl)) rfl,
                    inv_move (.inl rfl) rfl rfl rfl rfl rfl rfl rfl rfl (StW.keep (neB rfl) (neB rfl) (neB rfl) (neB rfl) (neB rfl) (neB rfl)) rfl,
                    inv_index rfl rfl rfl rfl rfl rfl rfl rfl rfl (StW.keep (neB rfl) (neB rfl) (neB rfl) (neB rfl) (neB rfl) (neB rfl)) rfl rfl (fun w => indexS w _ _ _ _ _ i1),
                    inv_field rfl rfl rfl rfl rfl rfl rfl rfl rfl (StW.keep (neB rfl) (neB rfl) (neB rfl) (neB rfl) (neB rfl) (neB rfl)) rfl (fun w => fieldS1 w _ _),
                    inv_load rfl rfl rfl rfl rfl rfl rfl rfl rfl (StW.keep (neB rfl) (neB rfl) (neB rfl) (neB rfl) (neB rfl) (neB rfl)) rfl (fun L u w h => loadL (HCe.out w h.bw).2),
                    inv_call rfl rfl rfl rfl rfl rfl rfl rfl (enterP Try.func16 (by kernel_rfl) (by kernel_rfl)) (fun a w L hv hd hl h => by
                      rw [show (#[Operand.tmp 165] : Array Operand).map a.eval = #[a.eval (.tmp 165)] from by simp, hv _ _ rfl]
                      exact copied_here HIn.out.1 HIn.out.2 HH.out.2.2.2.1 HH.out.2.2.2.2.1 (neB rfl) (neB rfl) (neB rfl) (neB rfl) rfl hl h),
                    inv_call rfl rfl rfl rfl rfl rfl rfl rfl (enterP Try.func14 (by kernel_rfl) (by kernel_rfl)) (fun a w L hv hd hl h => by
                      rw [show (#[Operand.tmp 155, Operand.tmp 160, Operand.tmp 166] : Array Operand).map a.eval = #[a.eval (.tmp 155), a.eval (.tmp 160), a.eval (.tmp 166)] from by simp, hv (.tmp 155) _ rfl, hv (.tmp 160) _ rfl]
                      exact step_here (fun i hi => (HH.out.2.2.2.2.1 i hi).2) HH.out.1 HH.out.2.1 HH.out.2.2.1 (neB rfl) (neB rfl) (neB rfl) (neB rfl) rfl (hd 11 rfl) hl h),
                    inv_move (.inl rfl) rfl rfl rfl rfl rfl rfl rfl rfl (StW.keep (neB rfl) (neB rfl) (neB rfl) (neB rfl) (neB rfl) (neB rfl)) rfl,
                    inv_extract rfl rfl rfl rfl rfl rfl rfl rfl rfl (StW.keep (neB rfl) (neB rfl) (neB rfl) (neB rfl) (neB rfl) (neB rfl)) rfl (fun w => run_extract0 _ _ w),
                    inv_extract rfl rfl rfl rfl rfl rfl rfl rfl rfl (StW.keep (neB rfl) (neB rfl) (neB rfl) (neB rfl) (neB rfl) (neB rfl)) rfl (fun w => run_extract1 _ _ w),
                    inv_alloc rfl rfl rfl rfl rfl rfl rfl rfl rfl run_allocReading (fun L u w hl h => h.alloc hl (neB rfl) (neB rfl) (neB rfl) (neB rfl)),
                    inv_store rfl rfl rfl rfl rfl rfl rfl (fun L a w _ hd hl h => by
                      obtain ⟨g, hg, hh, hW⟩ := h.store hl (hd 12 rfl) (hd 16 rfl) (neB rfl) (neB rfl) (neB rfl)
                      refine ⟨_, ?_, hW⟩
                      rw [show a.eval (.tmp 21) = Ptr g from hg]
                      exact run_storeReading hh _ _),
                    inv_move (.inr rfl) rfl rfl rfl rfl rfl rfl rfl rfl (StW.keep (neB rfl) (neB rfl) (neB rfl) (neB rfl) (neB rfl) (neB rfl)) rfl,
                    trivial⟩
                intro a7 w7 L7 hL7 J7
                have e7 := J7.fin hL7 rfl
                have W7 := J7.other
                obtain ⟨g7, hg7, hge7, hb7⟩ := W7.al (hL7 16 (Nat.le_of_ble_eq_true rfl))
                rw [hL7 17 (Nat.le_of_ble_eq_true rfl)] at hb7
                obtain ⟨S7, tk7, hS7⟩ := W7.tk1 (hL7 12 (Nat.le_of_ble_eq_true rfl))
                have bw7 := W7.bw
                clear J7 W7
                rw [e7]
                clear e7
                generalize hv7 : Tab.u _ a7 = U7 at *
                simp only [Tab.puts, List.getD_cons_succ, List.getD_cons_zero, Option.getD_some, Option.getD_none, hg7, List.setIfInBounds_toArray, List.set_cons_succ, List.set_cons_zero, List.set_nil]
                clear hg7 hv7 hL7
                generalize U7 11 = v7
                clear U7
                have R11 := hideIt (R10.out.drawn tk7 hS7 bw7)
                have c70 := blk_cell hb7 (i := 0) rfl
                have c71 := blk_cell hb7 (i := 1) rfl
                have hl7 := blk_lt hb7
                obtain ⟨bo, offo, Ro, hoa, hbo, hRo, o0, o1⟩ := HD.out.1.2 j (by omega)
                have hRR : Ro = R := by
                  have h := Ts.outs_at c Ts.new HX.out.1
                  rw [hRo, HX.out.2.2.2.2.2.1] at h
                  injection h with h
                  exact h.trans HH.out.2.2.2.2.2.1
                subst hRR
                subst hoa
                have o0' := (R11.out.aft.cell hbo _).trans o0
                have o1' := (R11.out.aft.cell hbo _).trans o1
                have hbo' : bo < w7.heap.size := Nat.lt_of_lt_of_le hbo R11.out.aft.size
                have hnq := fun W => neqR Ro.s Ro.v W
                clear o0 o1 hRo tk7 hS7 bw7 hb7 hge7 HCe HIn
                go_wp2_with fail
                go_quiet (fail)
                go_wp2_with fail
                go_roundw
                case rel => exact ⟨j + 1, S7, by omega, by go_num, by rw [Ts.run_succ c _ HX.out.1, HX.out.2.2.2.2.2.1, HH.out.2.2.2.2.2.2]; exact R11.out.after (After.rfl.draws _)⟩
                case measure => simp [intOf]; omega
              · go_quiet (fail)
                go_wp2_with fail
                generalize hw10 : World.drewN w9 _ = w10
                have R10 : Hid (Rfs w4 p w5.heap.size c sj w10 S9) := by rw [← hw10]; exact hideIt (R9.out.after (After.rfl.draws _))
                clear hw10
                have HCe : Hid (∀ W, But (fun i => S9 i ∨ w10.heap.size ≤ i) w10 W → W.cell? ⟨b, off + j * 2, none⟩ = some (.int .i64 x.tick) ∧ W.cell? ⟨b, off + j * 2 + 1, none⟩ = some (.slice x.a x.n x.d)) := fun W bW => by
                  have a38 := HD.out.2.trans R10.out.aft
                  have hb8 : b < w10.heap.size := Nat.lt_of_lt_of_le HX.out.2.2.1 a38.size
                  have hb4 : b < w4.heap.size := Nat.lt_of_lt_of_le HX.out.2.2.1 HD.out.2.size
                  have hnb : ¬ (S9 b ∨ w10.heap.size ≤ b) := fun h => by
                    rcases h with h | h
                    · have := R10.out.lo b h; omega
                    · omega
                  exact ⟨((bW.cell hb8 hnb _).trans (a38.cell HX.out.2.2.1 _)).trans HX.out.2.2.2.1, ((bW.cell hb8 hnb _).trans (a38.cell HX.out.2.2.1 _)).trans HX.out.2.2.2.2.1⟩
                have herr := HM.out.fine.err c HX.out.1
                rw [HX.out.2.2.2.2.2.1] at herr
                obtain ⟨R, hR⟩ : ∃ R, sj.read c x.tick x.l = R := ⟨_, rfl⟩
                obtain ⟨s1, hs1⟩ : ∃ s1, sj.step c x.tick x.l = s1 := ⟨_, rfl⟩
                have hgo : sj.go c x.tick x.l = s1 := by unfold Ts.go; rw [if_pos herr]; exact hs1
                have hout : sj.out c x.tick x.l = R := by unfold Ts.out; rw [if_pos herr]; exact hR
                have hxn : x.n ≤ 5864062014634 := by have := HM.out.fine.few j x HX.out.1; have := HX.out.2.1.1.1; omega
                have hsb : ∀ i, S9 i → w3.heap.size ≤ i ∧ i < w10.heap.size := fun i hi => ⟨by have := R10.out.lo i hi; have := HD.out.2.size; omega, R10.out.tk.lt i hi⟩
                have HH := hideIt (And.intro herr (And.intro hgo (And.intro hout (And.intro hxn (And.intro hsb (And.intro hR hs1))))))
                have HIn := hideIt (And.intro HX.out.2.1 (HD.out.2.trans R10.out.aft))
                clear herr hgo hout hxn hsb hR hs1
                refine region_inv (by kernel_rfl) (Tab.J (⟨19, fun i => [155, 156, 157, 158, 159, 160, 161, 162, 163, 164, 165, 166, 167, 154, 168, 169, 21, 1017, 22].getD i 0, fun i => ([some (Ptr p), some (.slice (some ⟨b, off, none⟩) N sc), some (.int .i64 (j : Int)), some (.pointer (some ⟨b, off + j * 2, none⟩)), some (.pointer (some ⟨b, off + j * 2, none⟩)), some (.int .i64 x.tick), some (.slice (some ⟨b, off, none⟩) N sc), some (.int .i64 (j : Int)), some (.pointer (some ⟨b, off + j * 2, none⟩)), some (.pointer (some ⟨b, off + j * 2 + 1, none⟩)), some (.slice x.a x.n x.d), none, some (.tuple #[.agg #[.int .i64 (R).s, .int .i64 (R).v], .int .i64 0]), some (.tuple #[.agg #[.int .i64 (R).s, .int .i64 (R).v], .int .i64 0]), some (.agg #[.int .i64 (R).s, .int .i64 (R).v]), some (.int .i64 0), none, none, some (.int .i64 0)] : List (Option Value)).getD i none, StW 11 12 16 17 w10 p S9 c (sj) (s1) (R) x.n x.l⟩ : Tab) _) ⟨rfl, rfl, fun _ _ => rfl, (fun _ _ _ _ h => by cases h), StW.first R10.out.tk⟩ ?_ ?_
                · exact ⟨inv_move (.inl rfl) rfl rfl rfl rfl rfl rfl rfl rfl (StW.keep (neB rfl) (neB rfl) (neB rfl) (neB rfl) (neB rfl) (neB rfl)) rfl,
                    inv_move (.inl rfl) rfl rfl rfl rfl rfl rfl rfl rfl (StW.keep (neB rfl) (neB rfl) (neB rfl) (neB rfl) (neB rfl) (neB rfl)) rfl,
                    inv_move (.inl rfl) rfl rfl rfl rfl rfl rfl rfl rfl (StW.keep (neB rfl) (neB rfl) (neB rfl) (neB rfl) (neB rfl) (neB rfl)) rfl,
                    inv_index rfl rfl rfl rfl rfl rfl rfl rfl rfl (StW.keep (neB rfl) (neB rfl) (neB rfl) (neB rfl) (neB rfl) (neB rfl)) rfl rfl (fun w => indexS w _ _ _ _ _ i1),
                    inv_field rfl rfl rfl rfl rfl rfl rfl rfl rfl (StW.keep (neB rfl) (neB rfl) (neB rfl) (neB rfl) (neB rfl) (neB rfl)) rfl (fun w => fieldS0 w _ _),
                    inv_load rfl rfl rfl rfl rfl rfl rfl rfl rfl (StW.keep (neB rfl) (neB rfl) (neB rfl) (neB rfl) (neB rfl) (neB rfl)) rfl (fun L u w h => loadI (HCe.out w h.bw).1),
                    inv_move (.inl rfl) rfl rfl rfl rfl rfl rfl rfl rfl (StW.keep (neB rfl) (neB rfl) (neB rfl) (neB rfl) (neB rfl) (neB rfl)) rfl,
                    inv_move (.inl rfl) rfl rfl rfl rfl rfl rfl rfl rfl (StW.keep (neB rfl) (neB rfl) (neB rfl) (neB rfl) (neB rfl) (neB rfl)) rfl,
                    inv_index rfl rfl rfl rfl rfl rfl rfl rfl rfl (StW.keep (neB rfl) (neB rfl) (neB rfl) (neB rfl) (neB rfl) (neB rfl)) rfl rfl (fun w => indexS w _ _ _ _ _ i1),
                    inv_field rfl rfl rfl rfl rfl rfl rfl rfl rfl (StW.keep (neB rfl) (neB rfl) (neB rfl) (neB rfl) (neB rfl) (neB rfl)) rfl (fun w => fieldS1 w _ _),
                    inv_load rfl rfl rfl rfl rfl rfl rfl rfl rfl (StW.keep (neB rfl) (neB rfl) (neB rfl) (neB rfl) (neB rfl) (neB rfl)) rfl (fun L u w h => loadL (HCe.out w h.bw).2),
                    inv_call rfl rfl rfl rfl rfl rfl rfl rfl (enterP Try.func16 (by kernel_rfl) (by kernel_rfl)) (fun a w L hv hd hl h => by
                      rw [show (#[Operand.tmp 165] : Array Operand).map a.eval = #[a.eval (.tmp 165)] from by simp, hv _ _ rfl]
                      exact copied_here HIn.out.1 HIn.out.2 HH.out.2.2.2.1 HH.out.2.2.2.2.1 (neB rfl) (neB rfl) (neB rfl) (neB rfl) rfl hl h),
                    inv_call rfl rfl rfl rfl rfl rfl rfl rfl (enterP Try.func14 (by kernel_rfl) (by kernel_rfl)) (fun a w L hv hd hl h => by
                      rw [show (#[Operand.tmp 155, Operand.tmp 160, Operand.tmp 166] : Array Operand).map a.eval = #[a.eval (.tmp 155), a.eval (.tmp 160), a.eval (.tmp 166)] from by simp, hv (.tmp 155) _ rfl, hv (.tmp 160) _ rfl]
                      exact step_here (fun i hi => (HH.out.2.2.2.2.1 i hi).2) HH.out.1 HH.out.2.1 HH.out.2.2.1 (neB rfl) (neB rfl) (neB rfl) (neB rfl) rfl (hd 11 rfl) hl h),
                    inv_move (.inl rfl) rfl rfl rfl rfl rfl rfl rfl rfl (StW.keep (neB rfl) (neB rfl) (neB rfl) (neB rfl) (neB rfl) (neB rfl)) rfl,
                    inv_extract rfl rfl rfl rfl rfl rfl rfl rfl rfl (StW.keep (neB rfl) (neB rfl) (neB rfl) (neB rfl) (neB rfl) (neB rfl)) rfl (fun w => run_extract0 _ _ w),
                    inv_extract rfl rfl rfl rfl rfl rfl rfl rfl rfl (StW.keep (neB rfl) (neB rfl) (neB rfl) (neB rfl) (neB rfl) (neB rfl)) rfl (fun w => run_extract1 _ _ w),
                    inv_alloc rfl rfl rfl rfl rfl rfl rfl rfl rfl run_allocReading (fun L u w hl h => h.alloc hl (neB rfl) (neB rfl) (neB rfl) (neB rfl)),
                    inv_store rfl rfl rfl rfl rfl rfl rfl (fun L a w _ hd hl h => by
                      obtain ⟨g, hg, hh, hW⟩ := h.store hl (hd 12 rfl) (hd 16 rfl) (neB rfl) (neB rfl) (neB rfl)
                      refine ⟨_, ?_, hW⟩
                      rw [show a.eval (.tmp 21) = Ptr g from hg]
                      exact run_storeReading hh _ _),
                    inv_move (.inr rfl) rfl rfl rfl rfl rfl rfl rfl rfl (StW.keep (neB rfl) (neB rfl) (neB rfl) (neB rfl) (neB rfl) (neB rfl)) rfl,
                    trivial⟩
                intro a7 w7 L7 hL7 J7
                have e7 := J7.fin hL7 rfl
                have W7 := J7.other
                obtain ⟨g7, hg7, hge7, hb7⟩ := W7.al (hL7 16 (Nat.le_of_ble_eq_true rfl))
                rw [hL7 17 (Nat.le_of_ble_eq_true rfl)] at hb7
                obtain ⟨S7, tk7, hS7⟩ := W7.tk1 (hL7 12 (Nat.le_of_ble_eq_true rfl))
                have bw7 := W7.bw
                clear J7 W7
                rw [e7]
                clear e7
                generalize hv7 : Tab.u _ a7 = U7 at *
                simp only [Tab.puts, List.getD_cons_succ, List.getD_cons_zero, Option.getD_some, Option.getD_none, hg7, List.setIfInBounds_toArray, List.set_cons_succ, List.set_cons_zero, List.set_nil]
                clear hg7 hv7 hL7
                generalize U7 11 = v7
                clear U7
                have R11 := hideIt (R10.out.drawn tk7 hS7 bw7)
                have c70 := blk_cell hb7 (i := 0) rfl
                have c71 := blk_cell hb7 (i := 1) rfl
                have hl7 := blk_lt hb7
                obtain ⟨bo, offo, Ro, hoa, hbo, hRo, o0, o1⟩ := HD.out.1.2 j (by omega)
                have hRR : Ro = R := by
                  have h := Ts.outs_at c Ts.new HX.out.1
                  rw [hRo, HX.out.2.2.2.2.2.1] at h
                  injection h with h
                  exact h.trans HH.out.2.2.2.2.2.1
                subst hRR
                subst hoa
                have o0' := (R11.out.aft.cell hbo _).trans o0
                have o1' := (R11.out.aft.cell hbo _).trans o1
                have hbo' : bo < w7.heap.size := Nat.lt_of_lt_of_le hbo R11.out.aft.size
                have hnq := fun W => neqR Ro.s Ro.v W
                clear o0 o1 hRo tk7 hS7 bw7 hb7 hge7 HCe HIn
                go_wp2_with fail
                go_quiet (fail)
                go_wp2_with fail
                go_roundw
                case rel => exact ⟨j + 1, S7, by omega, by go_num, by rw [Ts.run_succ c _ HX.out.1, HX.out.2.2.2.2.2.1, HH.out.2.2.2.2.2.2]; exact R11.out.after (After.rfl.draws _)⟩
                case measure => simp [intOf]; omega
            · have q3' : ¬ (0 : Int) < (j : Int) := by omega
              go_quiet (fail)
              go_wp2_with fail
              generalize hw10 : World.drewN w9 _ = w10
              have R10 : Hid (Rfs w4 p w5.heap.size c sj w10 S9) := by rw [← hw10]; exact hideIt (R9.out.after (After.rfl.draws _))
              clear hw10
              have HCe : Hid (∀ W, But (fun i => S9 i ∨ w10.heap.size ≤ i) w10 W → W.cell? ⟨b, off + j * 2, none⟩ = some (.int .i64 x.tick) ∧ W.cell? ⟨b, off + j * 2 + 1, none⟩ = some (.slice x.a x.n x.d)) := fun W bW => by
                have a38 := HD.out.2.trans R10.out.aft
                have hb8 : b < w10.heap.size := Nat.lt_of_lt_of_le HX.out.2.2.1 a38.size
                have hb4 : b < w4.heap.size := Nat.lt_of_lt_of_le HX.out.2.2.1 HD.out.2.size
                have hnb : ¬ (S9 b ∨ w10.heap.size ≤ b) := fun h => by
                  rcases h with h | h
                  · have := R10.out.lo b h; omega
                  · omega
                exact ⟨((bW.cell hb8 hnb _).trans (a38.cell HX.out.2.2.1 _)).trans HX.out.2.2.2.1, ((bW.cell hb8 hnb _).trans (a38.cell HX.out.2.2.1 _)).trans HX.out.2.2.2.2.1⟩
              have herr := HM.out.fine.err c HX.out.1
              rw [HX.out.2.2.2.2.2.1] at herr
              obtain ⟨R, hR⟩ : ∃ R, sj.read c x.tick x.l = R := ⟨_, rfl⟩
              obtain ⟨s1, hs1⟩ : ∃ s1, sj.step c x.tick x.l = s1 := ⟨_, rfl⟩
              have hgo : sj.go c x.tick x.l = s1 := by unfold Ts.go; rw [if_pos herr]; exact hs1
              have hout : sj.out c x.tick x.l = R := by unfold Ts.out; rw [if_pos herr]; exact hR
              have hxn : x.n ≤ 5864062014634 := by have := HM.out.fine.few j x HX.out.1; have := HX.out.2.1.1.1; omega
              have hsb : ∀ i, S9 i → w3.heap.size ≤ i ∧ i < w10.heap.size := fun i hi => ⟨by have := R10.out.lo i hi; have := HD.out.2.size; omega, R10.out.tk.lt i hi⟩
              have HH := hideIt (And.intro herr (And.intro hgo (And.intro hout (And.intro hxn (And.intro hsb (And.intro hR hs1))))))
              have HIn := hideIt (And.intro HX.out.2.1 (HD.out.2.trans R10.out.aft))
              clear herr hgo hout hxn hsb hR hs1
              refine region_inv (by kernel_rfl) (Tab.J (⟨19, fun i => [155, 156, 157, 158, 159, 160, 161, 162, 163, 164, 165, 166, 167, 154, 168, 169, 21, 1017, 22].getD i 0, fun i => ([some (Ptr p), some (.slice (some ⟨b, off, none⟩) N sc), some (.int .i64 (j : Int)), some (.pointer (some ⟨b, off + j * 2, none⟩)), some (.pointer (some ⟨b, off + j * 2, none⟩)), some (.int .i64 x.tick), some (.slice (some ⟨b, off, none⟩) N sc), some (.int .i64 (j : Int)), some (.pointer (some ⟨b, off + j * 2, none⟩)), some (.pointer (some ⟨b, off + j * 2 + 1, none⟩)), some (.slice x.a x.n x.d), none, some (.tuple #[.agg #[.int .i64 (R).s, .int .i64 (R).v], .int .i64 0]), some (.tuple #[.agg #[.int .i64 (R).s, .int .i64 (R).v], .int .i64 0]), some (.agg #[.int .i64 (R).s, .int .i64 (R).v]), some (.int .i64 0), none, none, some (.int .i64 0)] : List (Option Value)).getD i none, StW 11 12 16 17 w10 p S9 c (sj) (s1) (R) x.n x.l⟩ : Tab) _) ⟨rfl, rfl, fun _ _ => rfl, (fun _ _ _ _ h => by cases h), StW.first R10.out.tk⟩ ?_ ?_
              · exact ⟨inv_move (.inl rfl) rfl rfl rfl rfl rfl rfl rfl rfl (StW.keep (neB rfl) (neB rfl) (neB rfl) (neB rfl) (neB rfl) (neB rfl)) rfl,
                  inv_move (.inl rfl) rfl rfl rfl rfl rfl rfl rfl rfl (StW.keep (neB rfl) (neB rfl) (neB rfl) (neB rfl) (neB rfl) (neB rfl)) rfl,
                  inv_move (.inl rfl) rfl rfl rfl rfl rfl rfl rfl rfl (StW.keep (neB rfl) (neB rfl) (neB rfl) (neB rfl) (neB rfl) (neB rfl)) rfl,
                  inv_index rfl rfl rfl rfl rfl rfl rfl rfl rfl (StW.keep (neB rfl) (neB rfl) (neB rfl) (neB rfl) (neB rfl) (neB rfl)) rfl rfl (fun w => indexS w _ _ _ _ _ i1),
                  inv_field rfl rfl rfl rfl rfl rfl rfl rfl rfl (StW.keep (neB rfl) (neB rfl) (neB rfl) (neB rfl) (neB rfl) (neB rfl)) rfl (fun w => fieldS0 w _ _),
                  inv_load rfl rfl rfl rfl rfl rfl rfl rfl rfl (StW.keep (neB rfl) (neB rfl) (neB rfl) (neB rfl) (neB rfl) (neB rfl)) rfl (fun L u w h => loadI (HCe.out w h.bw).1),
                  inv_move (.inl rfl) rfl rfl rfl rfl rfl rfl rfl rfl (StW.keep (neB rfl) (neB rfl) (neB rfl) (neB rfl) (neB rfl) (neB rfl)) rfl,
                  inv_move (.inl rfl) rfl rfl rfl rfl rfl rfl rfl rfl (StW.keep (neB rfl) (neB rfl) (neB rfl) (neB rfl) (neB rfl) (neB rfl)) rfl,
                  inv_index rfl rfl rfl rfl rfl rfl rfl rfl rfl (StW.keep (neB rfl) (neB rfl) (neB rfl) (neB rfl) (neB rfl) (neB rfl)) rfl rfl (fun w => indexS w _ _ _ _ _ i1),
                  inv_field rfl rfl rfl rfl rfl rfl rfl rfl rfl (StW.keep (neB rfl) (neB rfl) (neB rfl) (neB rfl) (neB rfl) (neB rfl)) rfl (fun w => fieldS1 w _ _),
                  inv_load rfl rfl rfl rfl rfl rfl rfl rfl rfl (StW.keep (neB rfl) (neB rfl) (neB rfl) (neB rfl) (neB rfl) (neB rfl)) rfl (fun L u w h => loadL (HCe.out w h.bw).2),
                  inv_call rfl rfl rfl rfl rfl rfl rfl rfl (enterP Try.func16 (by kernel_rfl) (by kernel_rfl)) (fun a w L hv hd hl h => by
                    rw [show (#[Operand.tmp 165] : Array Operand).map a.eval = #[a.eval (.tmp 165)] from by simp, hv _ _ rfl]
                    exact copied_here HIn.out.1 HIn.out.2 HH.out.2.2.2.1 HH.out.2.2.2.2.1 (neB rfl) (neB rfl) (neB rfl) (neB rfl) rfl hl h),
                  inv_call rfl rfl rfl rfl rfl rfl rfl rfl (enterP Try.func14 (by kernel_rfl) (by kernel_rfl)) (fun a w L hv hd hl h => by
                    rw [show (#[Operand.tmp 155, Operand.tmp 160, Operand.tmp 166] : Array Operand).map a.eval = #[a.eval (.tmp 155), a.eval (.tmp 160), a.eval (.tmp 166)] from by simp, hv (.tmp 155) _ rfl, hv (.tmp 160) _ rfl]
                    exact step_here (fun i hi => (HH.out.2.2.2.2.1 i hi).2) HH.out.1 HH.out.2.1 HH.out.2.2.1 (neB rfl) (neB rfl) (neB rfl) (neB rfl) rfl (hd 11 rfl) hl h),
                  inv_move (.inl rfl) rfl rfl rfl rfl rfl rfl rfl rfl (StW.keep (neB rfl) (neB rfl) (neB rfl) (neB rfl) (neB rfl) (neB rfl)) rfl,
                  inv_extract rfl rfl rfl rfl rfl rfl rfl rfl rfl (StW.keep (neB rfl) (neB rfl) (neB rfl) (neB rfl) (neB rfl) (neB rfl)) rfl (fun w => run_extract0 _ _ w),
                  inv_extract rfl rfl rfl rfl rfl rfl rfl rfl rfl (StW.keep (neB rfl) (neB rfl) (neB rfl) (neB rfl) (neB rfl) (neB rfl)) rfl (fun w => run_extract1 _ _ w),
                  inv_alloc rfl rfl rfl rfl rfl rfl rfl rfl rfl run_allocReading (fun L u w hl h => h.alloc hl (neB rfl) (neB rfl) (neB rfl) (neB rfl)),
                  inv_store rfl rfl rfl rfl rfl rfl rfl (fun L a w _ hd hl h => by
                    obtain ⟨g, hg, hh, hW⟩ := h.store hl (hd 12 rfl) (hd 16 rfl) (neB rfl) (neB rfl) (neB rfl)
                    refine ⟨_, ?_, hW⟩
                    rw [show a.eval (.tmp 21) = Ptr g from hg]
                    exact run_storeReading hh _ _),
                  inv_move (.inr rfl) rfl rfl rfl rfl rfl rfl rfl rfl (StW.keep (neB rfl) (neB rfl) (neB rfl) (neB rfl) (neB rfl) (neB rfl)) rfl,
                  trivial⟩
              intro a7 w7 L7 hL7 J7
              have e7 := J7.fin hL7 rfl
              have W7 := J7.other
              obtain ⟨g7, hg7, hge7, hb7⟩ := W7.al (hL7 16 (Nat.le_of_ble_eq_true rfl))
              rw [hL7 17 (Nat.le_of_ble_eq_true rfl)] at hb7
              obtain ⟨S7, tk7, hS7⟩ := W7.tk1 (hL7 12 (Nat.le_of_ble_eq_true rfl))
              have bw7 := W7.bw
              clear J7 W7
              rw [e7]
              clear e7
              generalize hv7 : Tab.u _ a7 = U7 at *
              simp only [Tab.puts, List.getD_cons_succ, List.getD_cons_zero, Option.getD_some, Option.getD_none, hg7, List.setIfInBounds_toArray, List.set_cons_succ, List.set_cons_zero, List.set_nil]
              clear hg7 hv7 hL7
              generalize U7 11 = v7
              clear U7
              have R11 := hideIt (R10.out.drawn tk7 hS7 bw7)
              have c70 := blk_cell hb7 (i := 0) rfl
              have c71 := blk_cell hb7 (i := 1) rfl
              have hl7 := blk_lt hb7
              obtain ⟨bo, offo, Ro, hoa, hbo, hRo, o0, o1⟩ := HD.out.1.2 j (by omega)
              have hRR : Ro = R := by
                have h := Ts.outs_at c Ts.new HX.out.1
                rw [hRo, HX.out.2.2.2.2.2.1] at h
                injection h with h
                exact h.trans HH.out.2.2.2.2.2.1
              subst hRR
              subst hoa
              have o0' := (R11.out.aft.cell hbo _).trans o0
              have o1' := (R11.out.aft.cell hbo _).trans o1
              have hbo' : bo < w7.heap.size := Nat.lt_of_lt_of_le hbo R11.out.aft.size
              have hnq := fun W => neqR Ro.s Ro.v W
              clear o0 o1 hRo tk7 hS7 bw7 hb7 hge7 HCe HIn
              go_wp2_with fail
              go_quiet (fail)
              go_wp2_with fail
              go_roundw
              case rel => exact ⟨j + 1, S7, by omega, by go_num, by rw [Ts.run_succ c _ HX.out.1, HX.out.2.2.2.2.2.1, HH.out.2.2.2.2.2.2]; exact R11.out.after (After.rfl.draws _)⟩
              case measure => simp [intOf]; omega
          · go_quiet (fail)
            go_wp2_with fail
            generalize hw10 : World.drewN w9 _ = w10
            have R10 : Hid (Rfs w4 p w5.heap.size c sj w10 S9) := by rw [← hw10]; exact hideIt (R9.out.after (After.rfl.draws _))
            clear hw10
            have HCe : Hid (∀ W, But (fun i => S9 i ∨ w10.heap.size ≤ i) w10 W → W.cell? ⟨b, off + j * 2, none⟩ = some (.int .i64 x.tick) ∧ W.cell? ⟨b, off + j * 2 + 1, none⟩ = some (.slice x.a x.n x.d)) := fun W bW => by
              have a38 := HD.out.2.trans R10.out.aft
              have hb8 : b < w10.heap.size := Nat.lt_of_lt_of_le HX.out.2.2.1 a38.size
              have hb4 : b < w4.heap.size := Nat.lt_of_lt_of_le HX.out.2.2.1 HD.out.2.size
              have hnb : ¬ (S9 b ∨ w10.heap.size ≤ b) := fun h => by
                rcases h with h | h
                · have := R10.out.lo b h; omega
                · omega
              exact ⟨((bW.cell hb8 hnb _).trans (a38.cell HX.out.2.2.1 _)).trans HX.out.2.2.2.1, ((bW.cell hb8 hnb _).trans (a38.cell HX.out.2.2.1 _)).trans HX.out.2.2.2.2.1⟩
            have herr := HM.out.fine.err c HX.out.1
            rw [HX.out.2.2.2.2.2.1] at herr
            obtain ⟨R, hR⟩ : ∃ R, sj.read c x.tick x.l = R := ⟨_, rfl⟩
            obtain ⟨s1, hs1⟩ : ∃ s1, sj.step c x.tick x.l = s1 := ⟨_, rfl⟩
            have hgo : sj.go c x.tick x.l = s1 := by unfold Ts.go; rw [if_pos herr]; exact hs1
            have hout : sj.out c x.tick x.l = R := by unfold Ts.out; rw [if_pos herr]; exact hR
            have hxn : x.n ≤ 5864062014634 := by have := HM.out.fine.few j x HX.out.1; have := HX.out.2.1.1.1; omega
            have hsb : ∀ i, S9 i → w3.heap.size ≤ i ∧ i < w10.heap.size := fun i hi => ⟨by have := R10.out.lo i hi; have := HD.out.2.size; omega, R10.out.tk.lt i hi⟩
            have HH := hideIt (And.intro herr (And.intro hgo (And.intro hout (And.intro hxn (And.intro hsb (And.intro hR hs1))))))
            have HIn := hideIt (And.intro HX.out.2.1 (HD.out.2.trans R10.out.aft))
            clear herr hgo hout hxn hsb hR hs1
            refine region_inv (by kernel_rfl) (Tab.J (⟨19, fun i => [155, 156, 157, 158, 159, 160, 161, 162, 163, 164, 165, 166, 167, 154, 168, 169, 21, 1017, 22].getD i 0, fun i => ([some (Ptr p), some (.slice (some ⟨b, off, none⟩) N sc), some (.int .i64 (j : Int)), some (.pointer (some ⟨b, off + j * 2, none⟩)), some (.pointer (some ⟨b, off + j * 2, none⟩)), some (.int .i64 x.tick), some (.slice (some ⟨b, off, none⟩) N sc), some (.int .i64 (j : Int)), some (.pointer (some ⟨b, off + j * 2, none⟩)), some (.pointer (some ⟨b, off + j * 2 + 1, none⟩)), some (.slice x.a x.n x.d), none, some (.tuple #[.agg #[.int .i64 (R).s, .int .i64 (R).v], .int .i64 0]), some (.tuple #[.agg #[.int .i64 (R).s, .int .i64 (R).v], .int .i64 0]), some (.agg #[.int .i64 (R).s, .int .i64 (R).v]), some (.int .i64 0), none, none, some (.int .i64 0)] : List (Option Value)).getD i none, StW 11 12 16 17 w10 p S9 c (sj) (s1) (R) x.n x.l⟩ : Tab) _) ⟨rfl, rfl, fun _ _ => rfl, (fun _ _ _ _ h => by cases h), StW.first R10.out.tk⟩ ?_ ?_
            · exact ⟨inv_move (.inl rfl) rfl rfl rfl rfl rfl rfl rfl rfl (StW.keep (neB rfl) (neB rfl) (neB rfl) (neB rfl) (neB rfl) (neB rfl)) rfl,
                inv_move (.inl rfl) rfl rfl rfl rfl rfl rfl rfl rfl (StW.keep (neB rfl) (neB rfl) (neB rfl) (neB rfl) (neB rfl) (neB rfl)) rfl,
                inv_move (.inl rfl) rfl rfl rfl rfl rfl rfl rfl rfl (StW.keep (neB rfl) (neB rfl) (neB rfl) (neB rfl) (neB rfl) (neB rfl)) rfl,
                inv_index rfl rfl rfl rfl rfl rfl rfl rfl rfl (StW.keep (neB rfl) (neB rfl) (neB rfl) (neB rfl) (neB rfl) (neB rfl)) rfl rfl (fun w => indexS w _ _ _ _ _ i1),
                inv_field rfl rfl rfl rfl rfl rfl rfl rfl rfl (StW.keep (neB rfl) (neB rfl) (neB rfl) (neB rfl) (neB rfl) (neB rfl)) rfl (fun w => fieldS0 w _ _),
                inv_load rfl rfl rfl rfl rfl rfl rfl rfl rfl (StW.keep (neB rfl) (neB rfl) (neB rfl) (neB rfl) (neB rfl) (neB rfl)) rfl (fun L u w h => loadI (HCe.out w h.bw).1),
                inv_move (.inl rfl) rfl rfl rfl rfl rfl rfl rfl rfl (StW.keep (neB rfl) (neB rfl) (neB rfl) (neB rfl) (neB rfl) (neB rfl)) rfl,
                inv_move (.inl rfl) rfl rfl rfl rfl rfl rfl rfl rfl (StW.keep (neB rfl) (neB rfl) (neB rfl) (neB rfl) (neB rfl) (neB rfl)) rfl,
                inv_index rfl rfl rfl rfl rfl rfl rfl rfl rfl (StW.keep (neB rfl) (neB rfl) (neB rfl) (neB rfl) (neB rfl) (neB rfl)) rfl rfl (fun w => indexS w _ _ _ _ _ i1),
                inv_field rfl rfl rfl rfl rfl rfl rfl rfl rfl (StW.keep (neB rfl) (neB rfl) (neB rfl) (neB rfl) (neB rfl) (neB rfl)) rfl (fun w => fieldS1 w _ _),
                inv_load rfl rfl rfl rfl rfl rfl rfl rfl rfl (StW.keep (neB rfl) (neB rfl) (neB rfl) (neB rfl) (neB rfl) (neB rfl)) rfl (fun L u w h => loadL (HCe.out w h.bw).2),
                inv_call rfl rfl rfl rfl rfl rfl rfl rfl (enterP Try.func16 (by kernel_rfl) (by kernel_rfl)) (fun a w L hv hd hl h => by
                  rw [show (#[Operand.tmp 165] : Array Operand).map a.eval = #[a.eval (.tmp 165)] from by simp, hv _ _ rfl]
                  exact copied_here HIn.out.1 HIn.out.2 HH.out.2.2.2.1 HH.out.2.2.2.2.1 (neB rfl) (neB rfl) (neB rfl) (neB rfl) rfl hl h),
                inv_call rfl rfl rfl rfl rfl rfl rfl rfl (enterP Try.func14 (by kernel_rfl) (by kernel_rfl)) (fun a w L hv hd hl h => by
                  rw [show (#[Operand.tmp 155, Operand.tmp 160, Operand.tmp 166] : Array Operand).map a.eval = #[a.eval (.tmp 155), a.eval (.tmp 160), a.eval (.tmp 166)] from by simp, hv (.tmp 155) _ rfl, hv (.tmp 160) _ rfl]
                  exact step_here (fun i hi => (HH.out.2.2.2.2.1 i hi).2) HH.out.1 HH.out.2.1 HH.out.2.2.1 (neB rfl) (neB rfl) (neB rfl) (neB rfl) rfl (hd 11 rfl) hl h),
                inv_move (.inl rfl) rfl rfl rfl rfl rfl rfl rfl rfl (StW.keep (neB rfl) (neB rfl) (neB rfl) (neB rfl) (neB rfl) (neB rfl)) rfl,
                inv_extract rfl rfl rfl rfl rfl rfl rfl rfl rfl (StW.keep (neB rfl) (neB rfl) (neB rfl) (neB rfl) (neB rfl) (neB rfl)) rfl (fun w => run_extract0 _ _ w),
                inv_extract rfl rfl rfl rfl rfl rfl rfl rfl rfl (StW.keep (neB rfl) (neB rfl) (neB rfl) (neB rfl) (neB rfl) (neB rfl)) rfl (fun w => run_extract1 _ _ w),
                inv_alloc rfl rfl rfl rfl rfl rfl rfl rfl rfl run_allocReading (fun L u w hl h => h.alloc hl (neB rfl) (neB rfl) (neB rfl) (neB rfl)),
                inv_store rfl rfl rfl rfl rfl rfl rfl (fun L a w _ hd hl h => by
                  obtain ⟨g, hg, hh, hW⟩ := h.store hl (hd 12 rfl) (hd 16 rfl) (neB rfl) (neB rfl) (neB rfl)
                  refine ⟨_, ?_, hW⟩
                  rw [show a.eval (.tmp 21) = Ptr g from hg]
                  exact run_storeReading hh _ _),
                inv_move (.inr rfl) rfl rfl rfl rfl rfl rfl rfl rfl (StW.keep (neB rfl) (neB rfl) (neB rfl) (neB rfl) (neB rfl) (neB rfl)) rfl,
                trivial⟩
            intro a7 w7 L7 hL7 J7
            have e7 := J7.fin hL7 rfl
            have W7 := J7.other
            obtain ⟨g7, hg7, hge7, hb7⟩ := W7.al (hL7 16 (Nat.le_of_ble_eq_true rfl))
            rw [hL7 17 (Nat.le_of_ble_eq_true rfl)] at hb7
            obtain ⟨S7, tk7, hS7⟩ := W7.tk1 (hL7 12 (Nat.le_of_ble_eq_true rfl))
            have bw7 := W7.bw
            clear J7 W7
            rw [e7]
            clear e7
            generalize hv7 : Tab.u _ a7 = U7 at *
            simp only [Tab.puts, List.getD_cons_succ, List.getD_cons_zero, Option.getD_some, Option.getD_none, hg7, List.setIfInBounds_toArray, List.set_cons_succ, List.set_cons_zero, List.set_nil]
            clear hg7 hv7 hL7
            generalize U7 11 = v7
            clear U7
            have R11 := hideIt (R10.out.drawn tk7 hS7 bw7)
            have c70 := blk_cell hb7 (i := 0) rfl
            have c71 := blk_cell hb7 (i := 1) rfl
            have hl7 := blk_lt hb7
            obtain ⟨bo, offo, Ro, hoa, hbo, hRo, o0, o1⟩ := HD.out.1.2 j (by omega)
            have hRR : Ro = R := by
              have h := Ts.outs_at c Ts.new HX.out.1
              rw [hRo, HX.out.2.2.2.2.2.1] at h
              injection h with h
              exact h.trans HH.out.2.2.2.2.2.1
            subst hRR
            subst hoa
            have o0' := (R11.out.aft.cell hbo _).trans o0
            have o1' := (R11.out.aft.cell hbo _).trans o1
            have hbo' : bo < w7.heap.size := Nat.lt_of_lt_of_le hbo R11.out.aft.size
            have hnq := fun W => neqR Ro.s Ro.v W
            clear o0 o1 hRo tk7 hS7 bw7 hb7 hge7 HCe HIn
            go_wp2_with fail
            go_quiet (fail)
            go_wp2_with fail
            go_roundw
            case rel => exact ⟨j + 1, S7, by omega, by go_num, by rw [Ts.run_succ c _ HX.out.1, HX.out.2.2.2.2.2.1, HH.out.2.2.2.2.2.2]; exact R11.out.after (After.rfl.draws _)⟩
            case measure => simp [intOf]; omega
        · go_quiet (fail)
          go_wp2_with fail
          generalize hw10 : World.drewN w9 _ = w10
          have R10 : Hid (Rfs w4 p w5.heap.size c sj w10 S9) := by rw [← hw10]; exact hideIt (R9.out.after (After.rfl.draws _))
          clear hw10
          have HCe : Hid (∀ W, But (fun i => S9 i ∨ w10.heap.size ≤ i) w10 W → W.cell? ⟨b, off + j * 2, none⟩ = some (.int .i64 x.tick) ∧ W.cell? ⟨b, off + j * 2 + 1, none⟩ = some (.slice x.a x.n x.d)) := fun W bW => by
            have a38 := HD.out.2.trans R10.out.aft
            have hb8 : b < w10.heap.size := Nat.lt_of_lt_of_le HX.out.2.2.1 a38.size
            have hb4 : b < w4.heap.size := Nat.lt_of_lt_of_le HX.out.2.2.1 HD.out.2.size
            have hnb : ¬ (S9 b ∨ w10.heap.size ≤ b) := fun h => by
              rcases h with h | h
              · have := R10.out.lo b h; omega
              · omega
            exact ⟨((bW.cell hb8 hnb _).trans (a38.cell HX.out.2.2.1 _)).trans HX.out.2.2.2.1, ((bW.cell hb8 hnb _).trans (a38.cell HX.out.2.2.1 _)).trans HX.out.2.2.2.2.1⟩
          have herr := HM.out.fine.err c HX.out.1
          rw [HX.out.2.2.2.2.2.1] at herr
          obtain ⟨R, hR⟩ : ∃ R, sj.read c x.tick x.l = R := ⟨_, rfl⟩
          obtain ⟨s1, hs1⟩ : ∃ s1, sj.step c x.tick x.l = s1 := ⟨_, rfl⟩
          have hgo : sj.go c x.tick x.l = s1 := by unfold Ts.go; rw [if_pos herr]; exact hs1
          have hout : sj.out c x.tick x.l = R := by unfold Ts.out; rw [if_pos herr]; exact hR
          have hxn : x.n ≤ 5864062014634 := by have := HM.out.fine.few j x HX.out.1; have := HX.out.2.1.1.1; omega
          have hsb : ∀ i, S9 i → w3.heap.size ≤ i ∧ i < w10.heap.size := fun i hi => ⟨by have := R10.out.lo i hi; have := HD.out.2.size; omega, R10.out.tk.lt i hi⟩
          have HH := hideIt (And.intro herr (And.intro hgo (And.intro hout (And.intro hxn (And.intro hsb (And.intro hR hs1))))))
          have HIn := hideIt (And.intro HX.out.2.1 (HD.out.2.trans R10.out.aft))
          clear herr hgo hout hxn hsb hR hs1
          refine region_inv (by kernel_rfl) (Tab.J (⟨19, fun i => [155, 156, 157, 158, 159, 160, 161, 162, 163, 164, 165, 166, 167, 154, 168, 169, 21, 1017, 22].getD i 0, fun i => ([some (Ptr p), some (.slice (some ⟨b, off, none⟩) N sc), some (.int .i64 (j : Int)), some (.pointer (some ⟨b, off + j * 2, none⟩)), some (.pointer (some ⟨b, off + j * 2, none⟩)), some (.int .i64 x.tick), some (.slice (some ⟨b, off, none⟩) N sc), some (.int .i64 (j : Int)), some (.pointer (some ⟨b, off + j * 2, none⟩)), some (.pointer (some ⟨b, off + j * 2 + 1, none⟩)), some (.slice x.a x.n x.d), none, some (.tuple #[.agg #[.int .i64 (R).s, .int .i64 (R).v], .int .i64 0]), some (.tuple #[.agg #[.int .i64 (R).s, .int .i64 (R).v], .int .i64 0]), some (.agg #[.int .i64 (R).s, .int .i64 (R).v]), some (.int .i64 0), none, none, some (.int .i64 0)] : List (Option Value)).getD i none, StW 11 12 16 17 w10 p S9 c (sj) (s1) (R) x.n x.l⟩ : Tab) _) ⟨rfl, rfl, fun _ _ => rfl, (fun _ _ _ _ h => by cases h), StW.first R10.out.tk⟩ ?_ ?_
          · exact ⟨inv_move (.inl rfl) rfl rfl rfl rfl rfl rfl rfl rfl (StW.keep (neB rfl) (neB rfl) (neB rfl) (neB rfl) (neB rfl) (neB rfl)) rfl,
              inv_move (.inl rfl) rfl rfl rfl rfl rfl rfl rfl rfl (StW.keep (neB rfl) (neB rfl) (neB rfl) (neB rfl) (neB rfl) (neB rfl)) rfl,
              inv_move (.inl rfl) rfl rfl rfl rfl rfl rfl rfl rfl (StW.keep (neB rfl) (neB rfl) (neB rfl) (neB rfl) (neB rfl) (neB rfl)) rfl,
              inv_index rfl rfl rfl rfl rfl rfl rfl rfl rfl (StW.keep (neB rfl) (neB rfl) (neB rfl) (neB rfl) (neB rfl) (neB rfl)) rfl rfl (fun w => indexS w _ _ _ _ _ i1),
              inv_field rfl rfl rfl rfl rfl rfl rfl rfl rfl (StW.keep (neB rfl) (neB rfl) (neB rfl) (neB rfl) (neB rfl) (neB rfl)) rfl (fun w => fieldS0 w _ _),
              inv_load rfl rfl rfl rfl rfl rfl rfl rfl rfl (StW.keep (neB rfl) (neB rfl) (neB rfl) (neB rfl) (neB rfl) (neB rfl)) rfl (fun L u w h => loadI (HCe.out w h.bw).1),
              inv_move (.inl rfl) rfl rfl rfl rfl rfl rfl rfl rfl (StW.keep (neB rfl) (neB rfl) (neB rfl) (neB rfl) (neB rfl) (neB rfl)) rfl,
              inv_move (.inl rfl) rfl rfl rfl rfl rfl rfl rfl rfl (StW.keep (neB rfl) (neB rfl) (neB rfl) (neB rfl) (neB rfl) (neB rfl)) rfl,
              inv_index rfl rfl rfl rfl rfl rfl rfl rfl rfl (StW.keep (neB rfl) (neB rfl) (neB rfl) (neB rfl) (neB rfl) (neB rfl)) rfl rfl (fun w => indexS w _ _ _ _ _ i1),
              inv_field rfl rfl rfl rfl rfl rfl rfl rfl rfl (StW.keep (neB rfl) (neB rfl) (neB rfl) (neB rfl) (neB rfl) (neB rfl)) rfl (fun w => fieldS1 w _ _),
              inv_load rfl rfl rfl rfl rfl rfl rfl rfl rfl (StW.keep (neB rfl) (neB rfl) (neB rfl) (neB rfl) (neB rfl) (neB rfl)) rfl (fun L u w h => loadL (HCe.out w h.bw).2),
              inv_call rfl rfl rfl rfl rfl rfl rfl rfl (enterP Try.func16 (by kernel_rfl) (by kernel_rfl)) (fun a w L hv hd hl h => by
                rw [show (#[Operand.tmp 165] : Array Operand).map a.eval = #[a.eval (.tmp 165)] from by simp, hv _ _ rfl]
                exact copied_here HIn.out.1 HIn.out.2 HH.out.2.2.2.1 HH.out.2.2.2.2.1 (neB rfl) (neB rfl) (neB rfl) (neB rfl) rfl hl h),
              inv_call rfl rfl rfl rfl rfl rfl rfl rfl (enterP Try.func14 (by kernel_rfl) (by kernel_rfl)) (fun a w L hv hd hl h => by
                rw [show (#[Operand.tmp 155, Operand.tmp 160, Operand.tmp 166] : Array Operand).map a.eval = #[a.eval (.tmp 155), a.eval (.tmp 160), a.eval (.tmp 166)] from by simp, hv (.tmp 155) _ rfl, hv (.tmp 160) _ rfl]
                exact step_here (fun i hi => (HH.out.2.2.2.2.1 i hi).2) HH.out.1 HH.out.2.1 HH.out.2.2.1 (neB rfl) (neB rfl) (neB rfl) (neB rfl) rfl (hd 11 rfl) hl h),
              inv_move (.inl rfl) rfl rfl rfl rfl rfl rfl rfl rfl (StW.keep (neB rfl) (neB rfl) (neB rfl) (neB rfl) (neB rfl) (neB rfl)) rfl,
              inv_extract rfl rfl rfl rfl rfl rfl rfl rfl rfl (StW.keep (neB rfl) (neB rfl) (neB rfl) (neB rfl) (neB rfl) (neB rfl)) rfl (fun w => run_extract0 _ _ w),
              inv_extract rfl rfl rfl rfl rfl rfl rfl rfl rfl (StW.keep (neB rfl) (neB rfl) (neB rfl) (neB rfl) (neB rfl) (neB rfl)) rfl (fun w => run_extract1 _ _ w),
              inv_alloc rfl rfl rfl rfl rfl rfl rfl rfl rfl run_allocReading (fun L u w hl h => h.alloc hl (neB rfl) (neB rfl) (neB rfl) (neB rfl)),
              inv_store rfl rfl rfl rfl rfl rfl rfl (fun L a w _ hd hl h => by
                obtain ⟨g, hg, hh, hW⟩ := h.store hl (hd 12 rfl) (hd 16 rfl) (neB rfl) (neB rfl) (neB rfl)
                refine ⟨_, ?_, hW⟩
                rw [show a.eval (.tmp 21) = Ptr g from hg]
                exact run_storeReading hh _ _),
              inv_move (.inr rfl) rfl rfl rfl rfl rfl rfl rfl rfl (StW.keep (neB rfl) (neB rfl) (neB rfl) (neB rfl) (neB rfl) (neB rfl)) rfl,
              trivial⟩
          intro a7 w7 L7 hL7 J7
          have e7 := J7.fin hL7 rfl
          have W7 := J7.other
          obtain ⟨g7, hg7, hge7, hb7⟩ := W7.al (hL7 16 (Nat.le_of_ble_eq_true rfl))
          rw [hL7 17 (Nat.le_of_ble_eq_true rfl)] at hb7
          obtain ⟨S7, tk7, hS7⟩ := W7.tk1 (hL7 12 (Nat.le_of_ble_eq_true rfl))
          have bw7 := W7.bw
          clear J7 W7
          rw [e7]
          clear e7
          generalize hv7 : Tab.u _ a7 = U7 at *
          simp only [Tab.puts, List.getD_cons_succ, List.getD_cons_zero, Option.getD_some, Option.getD_none, hg7, List.setIfInBounds_toArray, List.set_cons_succ, List.set_cons_zero, List.set_nil]
          clear hg7 hv7 hL7
          generalize U7 11 = v7
          clear U7
          have R11 := hideIt (R10.out.drawn tk7 hS7 bw7)
          have c70 := blk_cell hb7 (i := 0) rfl
          have c71 := blk_cell hb7 (i := 1) rfl
          have hl7 := blk_lt hb7
          obtain ⟨bo, offo, Ro, hoa, hbo, hRo, o0, o1⟩ := HD.out.1.2 j (by omega)
          have hRR : Ro = R := by
            have h := Ts.outs_at c Ts.new HX.out.1
            rw [hRo, HX.out.2.2.2.2.2.1] at h
            injection h with h
            exact h.trans HH.out.2.2.2.2.2.1
          subst hRR
          subst hoa
          have o0' := (R11.out.aft.cell hbo _).trans o0
          have o1' := (R11.out.aft.cell hbo _).trans o1
          have hbo' : bo < w7.heap.size := Nat.lt_of_lt_of_le hbo R11.out.aft.size
          have hnq := fun W => neqR Ro.s Ro.v W
          clear o0 o1 hRo tk7 hS7 bw7 hb7 hge7 HCe HIn
          go_wp2_with fail
          go_quiet (fail)
          go_wp2_with fail
          go_roundw
          case rel => exact ⟨j + 1, S7, by omega, by go_num, by rw [Ts.run_succ c _ HX.out.1, HX.out.2.2.2.2.2.1, HH.out.2.2.2.2.2.2]; exact R11.out.after (After.rfl.draws _)⟩
          case measure => simp [intOf]; omega
      · have n1 : ¬ (j : Int) < (gn : Int) := by omega
        go_quiet (fail)
        go_wp2_with fail
        generalize hw10 : World.drewN w9 _ = w10
        have R10 : Hid (Rfs w4 p w5.heap.size c sj w10 S9) := by rw [← hw10]; exact hideIt (R9.out.after (After.rfl.draws _))
        clear hw10
        have HCe : Hid (∀ W, But (fun i => S9 i ∨ w10.heap.size ≤ i) w10 W → W.cell? ⟨b, off + j * 2, none⟩ = some (.int .i64 x.tick) ∧ W.cell? ⟨b, off + j * 2 + 1, none⟩ = some (.slice x.a x.n x.d)) := fun W bW => by
          have a38 := HD.out.2.trans R10.out.aft
          have hb8 : b < w10.heap.size := Nat.lt_of_lt_of_le HX.out.2.2.1 a38.size
          have hb4 : b < w4.heap.size := Nat.lt_of_lt_of_le HX.out.2.2.1 HD.out.2.size
          have hnb : ¬ (S9 b ∨ w10.heap.size ≤ b) := fun h => by
            rcases h with h | h
            · have := R10.out.lo b h; omega
            · omega
          exact ⟨((bW.cell hb8 hnb _).trans (a38.cell HX.out.2.2.1 _)).trans HX.out.2.2.2.1, ((bW.cell hb8 hnb _).trans (a38.cell HX.out.2.2.1 _)).trans HX.out.2.2.2.2.1⟩
        have herr := HM.out.fine.err c HX.out.1
        rw [HX.out.2.2.2.2.2.1] at herr
        obtain ⟨R, hR⟩ : ∃ R, sj.read c x.tick x.l = R := ⟨_, rfl⟩
        obtain ⟨s1, hs1⟩ : ∃ s1, sj.step c x.tick x.l = s1 := ⟨_, rfl⟩
        have hgo : sj.go c x.tick x.l = s1 := by unfold Ts.go; rw [if_pos herr]; exact hs1
        have hout : sj.out c x.tick x.l = R := by unfold Ts.out; rw [if_pos herr]; exact hR
        have hxn : x.n ≤ 5864062014634 := by have := HM.out.fine.few j x HX.out.1; have := HX.out.2.1.1.1; omega
        have hsb : ∀ i, S9 i → w3.heap.size ≤ i ∧ i < w10.heap.size := fun i hi => ⟨by have := R10.out.lo i hi; have := HD.out.2.size; omega, R10.out.tk.lt i hi⟩
        have HH := hideIt (And.intro herr (And.intro hgo (And.intro hout (And.intro hxn (And.intro hsb (And.intro hR hs1))))))
        have HIn := hideIt (And.intro HX.out.2.1 (HD.out.2.trans R10.out.aft))
        clear herr hgo hout hxn hsb hR hs1
        refine region_inv (by kernel_rfl) (Tab.J (⟨19, fun i => [155, 156, 157, 158, 159, 160, 161, 162, 163, 164, 165, 166, 167, 154, 168, 169, 21, 1017, 22].getD i 0, fun i => ([some (Ptr p), some (.slice (some ⟨b, off, none⟩) N sc), some (.int .i64 (j : Int)), some (.pointer (some ⟨b, off + j * 2, none⟩)), some (.pointer (some ⟨b, off + j * 2, none⟩)), some (.int .i64 x.tick), some (.slice (some ⟨b, off, none⟩) N sc), some (.int .i64 (j : Int)), some (.pointer (some ⟨b, off + j * 2, none⟩)), some (.pointer (some ⟨b, off + j * 2 + 1, none⟩)), some (.slice x.a x.n x.d), none, some (.tuple #[.agg #[.int .i64 (R).s, .int .i64 (R).v], .int .i64 0]), some (.tuple #[.agg #[.int .i64 (R).s, .int .i64 (R).v], .int .i64 0]), some (.agg #[.int .i64 (R).s, .int .i64 (R).v]), some (.int .i64 0), none, none, some (.int .i64 0)] : List (Option Value)).getD i none, StW 11 12 16 17 w10 p S9 c (sj) (s1) (R) x.n x.l⟩ : Tab) _) ⟨rfl, rfl, fun _ _ => rfl, (fun _ _ _ _ h => by cases h), StW.first R10.out.tk⟩ ?_ ?_
        · exact ⟨inv_move (.inl rfl) rfl rfl rfl rfl rfl rfl rfl rfl (StW.keep (neB rfl) (neB rfl) (neB rfl) (neB rfl) (neB rfl) (neB rfl)) rfl,
            inv_move (.inl rfl) rfl rfl rfl rfl rfl rfl rfl rfl (StW.keep (neB rfl) (neB rfl) (neB rfl) (neB rfl) (neB rfl) (neB rfl)) rfl,
            inv_move (.inl rfl) rfl rfl rfl rfl rfl rfl rfl rfl (StW.keep (neB rfl) (neB rfl) (neB rfl) (neB rfl) (neB rfl) (neB rfl)) rfl,
            inv_index rfl rfl rfl rfl rfl rfl rfl rfl rfl (StW.keep (neB rfl) (neB rfl) (neB rfl) (neB rfl) (neB rfl) (neB rfl)) rfl rfl (fun w => indexS w _ _ _ _ _ i1),
            inv_field rfl rfl rfl rfl rfl rfl rfl rfl rfl (StW.keep (neB rfl) (neB rfl) (neB rfl) (neB rfl) (neB rfl) (neB rfl)) rfl (fun w => fieldS0 w _ _),
            inv_load rfl rfl rfl rfl rfl rfl rfl rfl rfl (StW.keep (neB rfl) (neB rfl) (neB rfl) (neB rfl) (neB rfl) (neB rfl)) rfl (fun L u w h => loadI (HCe.out w h.bw).1),
            inv_move (.inl rfl) rfl rfl rfl rfl rfl rfl rfl rfl (StW.keep (neB rfl) (neB rfl) (neB rfl) (neB rfl) (neB rfl) (neB rfl)) rfl,
            inv_move (.inl rfl) rfl rfl rfl rfl rfl rfl rfl rfl (StW.keep (neB rfl) (neB rfl) (neB rfl) (neB rfl) (neB rfl) (neB rfl)) rfl,
            inv_index rfl rfl rfl rfl rfl rfl rfl rfl rfl (StW.keep (neB rfl) (neB rfl) (neB rfl) (neB rfl) (neB rfl) (neB rfl)) rfl rfl (fun w => indexS w _ _ _ _ _ i1),
            inv_field rfl rfl rfl rfl rfl rfl rfl rfl rfl (StW.keep (neB rfl) (neB rfl) (neB rfl) (neB rfl) (neB rfl) (neB rfl)) rfl (fun w => fieldS1 w _ _),
            inv_load rfl rfl rfl rfl rfl rfl rfl rfl rfl (StW.keep (neB rfl) (neB rfl) (neB rfl) (neB rfl) (neB rfl) (neB rfl)) rfl (fun L u w h => loadL (HCe.out w h.bw).2),
            inv_call rfl rfl rfl rfl rfl rfl rfl rfl (enterP Try.func16 (by kernel_rfl) (by kernel_rfl)) (fun a w L hv hd hl h => by
              rw [show (#[Operand.tmp 165] : Array Operand).map a.eval = #[a.eval (.tmp 165)] from by simp, hv _ _ rfl]
              exact copied_here HIn.out.1 HIn.out.2 HH.out.2.2.2.1 HH.out.2.2.2.2.1 (neB rfl) (neB rfl) (neB rfl) (neB rfl) rfl hl h),
            inv_call rfl rfl rfl rfl rfl rfl rfl rfl (enterP Try.func14 (by kernel_rfl) (by kernel_rfl)) (fun a w L hv hd hl h => by
              rw [show (#[Operand.tmp 155, Operand.tmp 160, Operand.tmp 166] : Array Operand).map a.eval = #[a.eval (.tmp 155), a.eval (.tmp 160), a.eval (.tmp 166)] from by simp, hv (.tmp 155) _ rfl, hv (.tmp 160) _ rfl]
              exact step_here (fun i hi => (HH.out.2.2.2.2.1 i hi).2) HH.out.1 HH.out.2.1 HH.out.2.2.1 (neB rfl) (neB rfl) (neB rfl) (neB rfl) rfl (hd 11 rfl) hl h),
            inv_move (.inl rfl) rfl rfl rfl rfl rfl rfl rfl rfl (StW.keep (neB rfl) (neB rfl) (neB rfl) (neB rfl) (neB rfl) (neB rfl)) rfl,
            inv_extract rfl rfl rfl rfl rfl rfl rfl rfl rfl (StW.keep (neB rfl) (neB rfl) (neB rfl) (neB rfl) (neB rfl) (neB rfl)) rfl (fun w => run_extract0 _ _ w),
            inv_extract rfl rfl rfl rfl rfl rfl rfl rfl rfl (StW.keep (neB rfl) (neB rfl) (neB rfl) (neB rfl) (neB rfl) (neB rfl)) rfl (fun w => run_extract1 _ _ w),
            inv_alloc rfl rfl rfl rfl rfl rfl rfl rfl rfl run_allocReading (fun L u w hl h => h.alloc hl (neB rfl) (neB rfl) (neB rfl) (neB rfl)),
            inv_store rfl rfl rfl rfl rfl rfl rfl (fun L a w _ hd hl h => by
              obtain ⟨g, hg, hh, hW⟩ := h.store hl (hd 12 rfl) (hd 16 rfl) (neB rfl) (neB rfl) (neB rfl)
              refine ⟨_, ?_, hW⟩
              rw [show a.eval (.tmp 21) = Ptr g from hg]
              exact run_storeReading hh _ _),
            inv_move (.inr rfl) rfl rfl rfl rfl rfl rfl rfl rfl (StW.keep (neB rfl) (neB rfl) (neB rfl) (neB rfl) (neB rfl) (neB rfl)) rfl,
            trivial⟩
        intro a7 w7 L7 hL7 J7
        have e7 := J7.fin hL7 rfl
        have W7 := J7.other
        obtain ⟨g7, hg7, hge7, hb7⟩ := W7.al (hL7 16 (Nat.le_of_ble_eq_true rfl))
        rw [hL7 17 (Nat.le_of_ble_eq_true rfl)] at hb7
        obtain ⟨S7, tk7, hS7⟩ := W7.tk1 (hL7 12 (Nat.le_of_ble_eq_true rfl))
        have bw7 := W7.bw
        clear J7 W7
        rw [e7]
        clear e7
        generalize hv7 : Tab.u _ a7 = U7 at *
        simp only [Tab.puts, List.getD_cons_succ, List.getD_cons_zero, Option.getD_some, Option.getD_none, hg7, List.setIfInBounds_toArray, List.set_cons_succ, List.set_cons_zero, List.set_nil]
        clear hg7 hv7 hL7
        generalize U7 11 = v7
        clear U7
        have R11 := hideIt (R10.out.drawn tk7 hS7 bw7)
        have c70 := blk_cell hb7 (i := 0) rfl
        have c71 := blk_cell hb7 (i := 1) rfl
        have hl7 := blk_lt hb7
        obtain ⟨bo, offo, Ro, hoa, hbo, hRo, o0, o1⟩ := HD.out.1.2 j (by omega)
        have hRR : Ro = R := by
          have h := Ts.outs_at c Ts.new HX.out.1
          rw [hRo, HX.out.2.2.2.2.2.1] at h
          injection h with h
          exact h.trans HH.out.2.2.2.2.2.1
        subst hRR
        subst hoa
        have o0' := (R11.out.aft.cell hbo _).trans o0
        have o1' := (R11.out.aft.cell hbo _).trans o1
        have hbo' : bo < w7.heap.size := Nat.lt_of_lt_of_le hbo R11.out.aft.size
        have hnq := fun W => neqR Ro.s Ro.v W
        clear o0 o1 hRo tk7 hS7 bw7 hb7 hge7 HCe HIn
        go_wp2_with fail
        go_quiet (fail)
        go_wp2_with fail
        go_roundw
        case rel => exact ⟨j + 1, S7, by omega, by go_num, by rw [Ts.run_succ c _ HX.out.1, HX.out.2.2.2.2.2.1, HH.out.2.2.2.2.2.2]; exact R11.out.after (After.rfl.draws _)⟩
        case measure => simp [intOf]; omega
    · have i1 : ¬ (j : Int) < (N : Int) := by omega
      have R := hideIt rf
      clear rf
      go_wp2_with fail
      go_ret
      exact ⟨rfl, (HM.out.aft.trans HD.out.2).trans R.out.aft⟩
end Go.Proofs.Ytgapnimicaopcaa
