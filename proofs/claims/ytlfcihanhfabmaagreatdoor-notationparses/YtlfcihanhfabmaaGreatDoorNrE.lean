/-
  The document's reader: unary; the whole grammar, by how many words are left; Parse.
-/
import Derived.Test.YtlfcihanhfabmaaGreatDoorNrD
import Derived.Test.YtlfcihanhfabmaaGreatDoorNtG
namespace Go.Proofs.YtlfcihanhfabmaaGreatDoor
open Go.RowKit
set_option maxRecDepth 8000
open L1 (S)
theorem unary_wrong {w0 w : World} {g : Nat} {s : W8} {d : Nat} {v : Value} {k m : Nat} (x : RfW w0 w g s d v k m) : Calls Tryz.prog 98 #[Ptr g] w fun e w' => e = .returned (.int .i64 0) ∧ w' = w := by
  obtain ⟨i, hb⟩ := x.blk
  obtain ⟨hg, c0, c1, c2, c3, c4, hz⟩ := five_at hb
  clear x hb hz
  go_enter Tryz.func98, Tryz.ntmps98
  go_wp2
  go_ret
  exact ⟨rfl, rfl⟩
/-- A node of one's own at q, while the reader goes on. -/
structure Bx (w0 w W : World) (g q : Nat) (v0 v : Value) (x : Nd) : Prop where
  hq : q ≠ g
  h0 : w0.heap.size ≤ q
  hw : w.heap.size ≤ q
  blk : W.heap[q]? = some (.cells #[.int .i64 x.op, .int .i64 x.a, .int .i64 x.b, .int .i64 x.n] 33 (0, 0))
  own : v.ownBlock ≠ some q
  go : Goes g v0 w v W
theorem Bx.goes {w0 w W W' : World} {g q : Nat} {v0 v v' : Value} {x : Nd} (b : Bx w0 w W g q v0 v x) (k : Goes g v W v' W') : Bx w0 w W' g q v0 v' x := by
  obtain ⟨h1, h2⟩ := k.keep b.hq b.own b.blk
  exact ⟨b.hq, b.h0, b.hw, h1, h2, b.go.trans k⟩
theorem Bx.put {w0 w W : World} {g q : Nat} {v0 v : Value} {x : Nd} (b : Bx w0 w W g q v0 v x) (i : Nat) (z : Int) {y : Nd} (h : (#[.int .i64 x.op, .int .i64 x.a, .int .i64 x.b, .int .i64 x.n] : Array Value).setIfInBounds i (.int .i64 z) = #[.int .i64 y.op, .int .i64 y.a, .int .i64 y.b, .int .i64 y.n]) : Bx w0 w (W.setCell ⟨q, i, none⟩ (.int .i64 z)) g q v0 v y :=
  ⟨b.hq, b.h0, b.hw, by rw [blk_put b.blk, h], b.own, b.go.far (but_one _ _ _ _) b.hw⟩
theorem RfX.far {w0 w w' : World} {g q : Nat} {s : W8} {d : Nat} {v : Value} {ts : List (Nat × W8)} {ns : List Nd} (x : RfX w0 w g s d v ts ns) (b : But (One q) w w') (hq : q ≠ g) (hv : v.ownBlock ≠ some q) (h0 : w0.heap.size ≤ q) : RfX w0 w' g s d v ts ns :=
  x.but b (fun e => hq e.symm) (fun k hk e => hv (by rw [hk, show k = q from e])) (fun k hk e => by rw [show k = q from e] at hk; omega)
theorem RfW.far {w0 w w' : World} {g q : Nat} {s : W8} {d : Nat} {v : Value} {k m : Nat} (x : RfW w0 w g s d v k m) (b : But (One q) w w') (hq : q ≠ g) (hv : v.ownBlock ≠ some q) (h0 : w0.heap.size ≤ q) : RfW w0 w' g s d v k m :=
  x.but b (fun e => hq e.symm) (fun k hk e => hv (by rw [hk, show k = q from e])) (fun k hk e => by rw [show k = q from e] at hk; omega)
theorem tickD_yes {w0 w : World} {g : Nat} {s : W8} {d : Nat} {v : Value} {ts : List (Nat × W8)} {ns : List Nd} (x : RfX w0 w g s d v ts ns) {k : Nat} (h : tickOf (hdT ts) = some k) : Calls Tryz.prog 105 #[Ptr g] w fun e w' => e = .returned (.int .i64 (k : Int)) ∧ RfX w0 w' g s d v ts.tail ns ∧ But (One g) w w' := (ticks_doc x).mono fun _ _ h' => h'.1 k h
theorem tickD_no {w0 w : World} {g : Nat} {s : W8} {d : Nat} {v : Value} {ts : List (Nat × W8)} {ns : List Nd} (x : RfX w0 w g s d v ts ns) (h : tickOf (hdT ts) = none) : Calls Tryz.prog 105 #[Ptr g] w fun e w' => e = .returned (.int .i64 0) ∧ RfW w0 w' g s d v ts.length ns.length ∧ But (One g) w w' := (ticks_doc x).mono fun _ _ h' => h'.2 h
set_option maxHeartbeats 2000000 in
theorem unaryD {w0 : World} {g : Nat} {s : W8} {d n : Nat} (D : DDoes 98 w0 g s d (pU n d) n) (Do : d < 32 → DDoes 30 w0 g s (d + 1) (orP (pU n (d + 1))) n) : DDoes 98 w0 g s d (pU (n + 1) d) (n + 1) := by
  intro w v ts ns hn x
  have HX := hideIt x
  have HD := hideIt D
  have his := pU_is n d (wds ts) ns
  rw [hd_wds] at his
  have HIs := hideIt his
  have HYes := hideIt (unN_yes (hdT ts))
  have HN := hideIt hn
  have HAtm : Hid (unN (hdT ts) = 4 → ∀ W, RfX w0 W g s d v ts ns → Calls Tryz.prog 106 #[Ptr g] W fun e w' => DTold w0 g s d v W (ns.length + ts.length) (pU (n + 1) d (wds ts) ns) e w') := hideIt (fun h4 W xW => by
    rw [his.2.2.2.2 h4]
    exact atomD (fine_or (fine_pU n (d + 1))) Do hn xW)
  obtain ⟨i0, hb0⟩ := x.blk
  obtain ⟨hg0, a0, a1, a2, a3, a4, -⟩ := five_at hb0
  have HG0 := hideIt hg0
  have HOw : Hid (v.ownBlock ≠ some w.heap.size) := hideIt (fun e => by
    have := (x.own.lt _ e).2
    omega)
  have HAf : Hid (w0.heap.size ≤ w.heap.size) := hideIt x.aft.size
  clear x hn D Do his hb0
  go_enter Tryz.func98, Tryz.ntmps98
  go_wp2_with fail
  obtain ⟨W0, hW0⟩ : ∃ W, W = w.alloc (.cells #[.int .i64 0, .int .i64 0, .int .i64 0, .int .i64 0] 33) := ⟨_, rfl⟩
  have aW : After w W0 := by rw [hW0]; exact After.rfl.alloc _
  obtain ⟨q, hq⟩ : ∃ q, q = w.heap.size := ⟨_, rfl⟩
  have bx : Bx w0 w W0 g q v v ⟨0, 0, 0, 0⟩ := ⟨by have := HG0.out; omega, by have := HAf.out; omega, by omega, by rw [hW0, hq]; exact heap_alloc_new w _, by rw [hq]; exact HOw.out, Goes.after aW⟩
  have HB0 := hideIt (And.intro (HX.out.after aW) bx)
  rw [← hW0, ← hq]
  clear hW0 aW hq bx HOw HAf a0 a1 a2 a3 a4 hg0
  rcases HYes.out with ⟨-, hm⟩ | ⟨-, hm⟩ | ⟨-, hm⟩ | ⟨-, hm⟩ | ⟨h4, hm⟩
  · have HM := hideIt hm
    clear hm
    have hl0 := hd_tail (ws := wds ts) (by rw [hd_wds, HM.out]; decide)
    rw [← wds_tail, wds_length, wds_length] at hl0
    have HL := hideIt hl0
    have HI := hideIt (HIs.out.1 HM.out)
    clear hl0
    refine (take_yes (t := wNot) HB0.out.1 HM.out).mono ?_
    rintro e u0 ⟨rfl, y9, b9⟩
    have B1 := HB0.out.2.goes (Goes.one b9)
    have m0 := blk_soft B1.blk 0
    have n0 := blk_cell B1.blk (i := 0) rfl
    have l0 := blk_lt B1.blk
    obtain ⟨u1, hu1⟩ : ∃ W, W = u0.setCell ⟨q, 0, none⟩ (.int .i64 6) := ⟨_, rfl⟩
    have HC1 : Hid (RfX w0 u1 g s d v ts.tail ns ∧ Bx w0 w u1 g q v v ⟨6, 0, 0, 0⟩) := hideIt (by rw [hu1]; exact ⟨y9.far (but_one _ _ _ _) B1.hq B1.own B1.h0, B1.put 0 6 rfl⟩)
    clear y9 b9 B1
    go_wp2_with fail
    rw [← hu1]
    clear hu1 m0 n0 l0
    have HI2 : Hid (pU (n + 1) d (wds ts) ns = unP 6 0 (pU n d (wds ts.tail) ns)) := hideIt (by rw [HI.out, ← wds_tail])
    rcases hr : pU n d (wds ts.tail) ns with k1 | h
    · have HW2 : Hid (pU (n + 1) d (wds ts) ns = .error k1) := hideIt (HI2.out.trans (bnd_no hr))
      have HR := hideIt hr
      clear hr
      refine (HD.out.no HR.out (by have := HN.out; have h2 := HL.out; omega) HC1.out.1).mono ?_
      rintro e u5 ⟨z5, v5, rfl, y5, k5⟩
      have B5 := HC1.out.2.goes k5
      have r3 := blk_soft B5.blk 1
      have r0 := blk_cell B5.blk (i := 0) rfl
      have r1 := blk_cell B5.blk (i := 1) rfl
      have r2 := blk_cell B5.blk (i := 2) rfl
      have r4 := blk_cell B5.blk (i := 3) rfl
      have l5 := blk_lt B5.blk
      obtain ⟨u6, hu6⟩ : ∃ W, W = u5.setCell ⟨q, 1, none⟩ (.int .i64 z5) := ⟨_, rfl⟩
      have HC6 : Hid (RfW w0 u6 g s d v5 k1 (ns.length + (ts.tail).length) ∧ Bx w0 w u6 g q v v5 ⟨6, z5, 0, 0⟩) := hideIt (by rw [hu6]; exact ⟨y5.far (but_one _ _ _ _) B5.hq B5.own B5.h0, B5.put 1 z5 rfl⟩)
      have HPw := hideIt (putW HC6.out.1 ⟨6, z5, 0, 0⟩ (by have h1 := HX.out.few; have h2 := HL.out; simp at h2 ⊢; omega))
      unfold Nd.val at HPw
      clear y5 k5 B5
      go_wp2_with fail
      rw [← hu6]
      clear hu6
      refine HPw.out.mono ?_
      rintro e u7 ⟨z7, v7, rfl, y7, k7⟩
      have HY7 := hideIt (And.intro (y7.more (m' := ns.length + ts.length) (by have h2 := HL.out; simp at h2 ⊢; omega)) (HC6.out.2.go.trans k7))
      clear y7 k7
      go_wp2
      go_ret
      rw [HW2.out]
      exact ⟨z7, v7, rfl, HY7.out.1, HY7.out.2⟩
    · have HW2 : Hid (pU (n + 1) d (wds ts) ns = putN h.ns ⟨6, h.i, 0, 0⟩ h.ws) := hideIt (HI2.out.trans (bnd_ok hr))
      have f1 := fine_pU n d (wds ts.tail) ns
      rw [hr] at f1
      have HF := hideIt f1
      have HR := hideIt hr
      clear hr f1
      refine (HD.out.yes HR.out (by have := HN.out; have h2 := HL.out; omega) HC1.out.1).mono ?_
      rintro e u5 ⟨v5, ts5, e5, rfl, y5, k5⟩
      have B5 := HC1.out.2.goes k5
      have r3 := blk_soft B5.blk 1
      have r0 := blk_cell B5.blk (i := 0) rfl
      have r1 := blk_cell B5.blk (i := 1) rfl
      have r2 := blk_cell B5.blk (i := 2) rfl
      have r4 := blk_cell B5.blk (i := 3) rfl
      have l5 := blk_lt B5.blk
      obtain ⟨u6, hu6⟩ : ∃ W, W = u5.setCell ⟨q, 1, none⟩ (.int .i64 (h.i : Int)) := ⟨_, rfl⟩
      have HC6 : Hid (RfX w0 u6 g s d v5 ts5 h.ns ∧ Bx w0 w u6 g q v v5 ⟨6, h.i, 0, 0⟩) := hideIt (by rw [hu6]; exact ⟨y5.far (but_one _ _ _ _) B5.hq B5.own B5.h0, B5.put 1 (h.i : Int) rfl⟩)
      have HE5 := hideIt e5
      have HPx := hideIt (putX HC6.out.1 ⟨6, h.i, 0, 0⟩ (by have h1 := HX.out.few; have h2 := HL.out; have h3 := HF.out.2.2.2; have h4 := wds_length ts5; rw [e5] at h4; rw [wds_length] at h3; simp at h2 h3 ⊢; omega))
      unfold Nd.val at HPx
      clear y5 k5 e5 B5
      go_wp2_with fail
      rw [← hu6]
      clear hu6
      refine HPx.out.mono ?_
      rintro e u7 ⟨v7, rfl, y7, k7⟩
      have HY7 := hideIt (And.intro y7 (HC6.out.2.go.trans k7))
      clear y7 k7
      go_wp2
      go_ret
      rw [HW2.out]
      exact ⟨v7, ts5, HE5.out, rfl, HY7.out.1, HY7.out.2⟩
  · have HM := hideIt hm
    clear hm
    refine (take_no (t := wNot) HB0.out.1 (by rw [HM.out]; decide)).mono ?_
    rintro e t0 ⟨rfl, y9, b9⟩
    have HB1 := hideIt (And.intro y9 (HB0.out.2.goes (Goes.one b9)))
    clear y9 b9
    have hl0 := hd_tail (ws := wds ts) (by rw [hd_wds, HM.out]; decide)
    rw [← wds_tail, wds_length, wds_length] at hl0
    have HL := hideIt hl0
    have HI := hideIt (HIs.out.2.1 HM.out)
    clear hl0
    go_wp2_with fail
    refine (take_yes (t := wPrev) HB1.out.1 HM.out).mono ?_
    rintro e u0 ⟨rfl, y9, b9⟩
    have B1 := HB1.out.2.goes (Goes.one b9)
    have m0 := blk_soft B1.blk 0
    have n0 := blk_cell B1.blk (i := 0) rfl
    have l0 := blk_lt B1.blk
    obtain ⟨u1, hu1⟩ : ∃ W, W = u0.setCell ⟨q, 0, none⟩ (.int .i64 9) := ⟨_, rfl⟩
    have HC1 : Hid (RfX w0 u1 g s d v ts.tail ns ∧ Bx w0 w u1 g q v v ⟨9, 0, 0, 0⟩) := hideIt (by rw [hu1]; exact ⟨y9.far (but_one _ _ _ _) B1.hq B1.own B1.h0, B1.put 0 9 rfl⟩)
    clear y9 b9 B1
    go_wp2_with fail
    rw [← hu1]
    clear hu1 m0 n0 l0
    have HI2 : Hid (pU (n + 1) d (wds ts) ns = unP 9 0 (pU n d (wds ts.tail) ns)) := hideIt (by rw [HI.out, ← wds_tail])
    rcases hr : pU n d (wds ts.tail) ns with k1 | h
    · have HW2 : Hid (pU (n + 1) d (wds ts) ns = .error k1) := hideIt (HI2.out.trans (bnd_no hr))
      have HR := hideIt hr
      clear hr
      refine (HD.out.no HR.out (by have := HN.out; have h2 := HL.out; omega) HC1.out.1).mono ?_
      rintro e u5 ⟨z5, v5, rfl, y5, k5⟩
      have B5 := HC1.out.2.goes k5
      have r3 := blk_soft B5.blk 1
      have r0 := blk_cell B5.blk (i := 0) rfl
      have r1 := blk_cell B5.blk (i := 1) rfl
      have r2 := blk_cell B5.blk (i := 2) rfl
      have r4 := blk_cell B5.blk (i := 3) rfl
      have l5 := blk_lt B5.blk
      obtain ⟨u6, hu6⟩ : ∃ W, W = u5.setCell ⟨q, 1, none⟩ (.int .i64 z5) := ⟨_, rfl⟩
      have HC6 : Hid (RfW w0 u6 g s d v5 k1 (ns.length + (ts.tail).length) ∧ Bx w0 w u6 g q v v5 ⟨9, z5, 0, 0⟩) := hideIt (by rw [hu6]; exact ⟨y5.far (but_one _ _ _ _) B5.hq B5.own B5.h0, B5.put 1 z5 rfl⟩)
      have HPw := hideIt (putW HC6.out.1 ⟨9, z5, 0, 0⟩ (by have h1 := HX.out.few; have h2 := HL.out; simp at h2 ⊢; omega))
      unfold Nd.val at HPw
      clear y5 k5 B5
      go_wp2_with fail
      rw [← hu6]
      clear hu6
      refine HPw.out.mono ?_
      rintro e u7 ⟨z7, v7, rfl, y7, k7⟩
      have HY7 := hideIt (And.intro (y7.more (m' := ns.length + ts.length) (by have h2 := HL.out; simp at h2 ⊢; omega)) (HC6.out.2.go.trans k7))
      clear y7 k7
      go_wp2
      go_ret
      rw [HW2.out]
      exact ⟨z7, v7, rfl, HY7.out.1, HY7.out.2⟩
    · have HW2 : Hid (pU (n + 1) d (wds ts) ns = putN h.ns ⟨9, h.i, 0, 0⟩ h.ws) := hideIt (HI2.out.trans (bnd_ok hr))
      have f1 := fine_pU n d (wds ts.tail) ns
      rw [hr] at f1
      have HF := hideIt f1
      have HR := hideIt hr
      clear hr f1
      refine (HD.out.yes HR.out (by have := HN.out; have h2 := HL.out; omega) HC1.out.1).mono ?_
      rintro e u5 ⟨v5, ts5, e5, rfl, y5, k5⟩
      have B5 := HC1.out.2.goes k5
      have r3 := blk_soft B5.blk 1
      have r0 := blk_cell B5.blk (i := 0) rfl
      have r1 := blk_cell B5.blk (i := 1) rfl
      have r2 := blk_cell B5.blk (i := 2) rfl
      have r4 := blk_cell B5.blk (i := 3) rfl
      have l5 := blk_lt B5.blk
      obtain ⟨u6, hu6⟩ : ∃ W, W = u5.setCell ⟨q, 1, none⟩ (.int .i64 (h.i : Int)) := ⟨_, rfl⟩
      have HC6 : Hid (RfX w0 u6 g s d v5 ts5 h.ns ∧ Bx w0 w u6 g q v v5 ⟨9, h.i, 0, 0⟩) := hideIt (by rw [hu6]; exact ⟨y5.far (but_one _ _ _ _) B5.hq B5.own B5.h0, B5.put 1 (h.i : Int) rfl⟩)
      have HE5 := hideIt e5
      have HPx := hideIt (putX HC6.out.1 ⟨9, h.i, 0, 0⟩ (by have h1 := HX.out.few; have h2 := HL.out; have h3 := HF.out.2.2.2; have h4 := wds_length ts5; rw [e5] at h4; rw [wds_length] at h3; simp at h2 h3 ⊢; omega))
      unfold Nd.val at HPx
      clear y5 k5 e5 B5
      go_wp2_with fail
      rw [← hu6]
      clear hu6
      refine HPx.out.mono ?_
      rintro e u7 ⟨v7, rfl, y7, k7⟩
      have HY7 := hideIt (And.intro y7 (HC6.out.2.go.trans k7))
      clear y7 k7
      go_wp2
      go_ret
      rw [HW2.out]
      exact ⟨v7, ts5, HE5.out, rfl, HY7.out.1, HY7.out.2⟩
  · have HM := hideIt hm
    clear hm
    refine (take_no (t := wNot) HB0.out.1 (by rw [HM.out]; decide)).mono ?_
    rintro e t0 ⟨rfl, y9, b9⟩
    have HB1 := hideIt (And.intro y9 (HB0.out.2.goes (Goes.one b9)))
    clear y9 b9
    go_wp2_with fail
    refine (take_no (t := wPrev) HB1.out.1 (by rw [HM.out]; decide)).mono ?_
    rintro e t1 ⟨rfl, y9, b9⟩
    have HB2 := hideIt (And.intro y9 (HB1.out.2.goes (Goes.one b9)))
    clear y9 b9
    have hl0 := hd_tail (ws := wds ts) (by rw [hd_wds, HM.out]; decide)
    rw [← wds_tail, wds_length, wds_length] at hl0
    have HL := hideIt hl0
    have HI := hideIt (HIs.out.2.2.1 HM.out)
    clear hl0
    go_wp2_with fail
    refine (take_yes (t := wOnce) HB2.out.1 HM.out).mono ?_
    rintro e u0 ⟨rfl, y9, b9⟩
    have B1 := HB2.out.2.goes (Goes.one b9)
    have m0 := blk_soft B1.blk 0
    have n0 := blk_cell B1.blk (i := 0) rfl
    have l0 := blk_lt B1.blk
    obtain ⟨u1, hu1⟩ : ∃ W, W = u0.setCell ⟨q, 0, none⟩ (.int .i64 10) := ⟨_, rfl⟩
    have HC1 : Hid (RfX w0 u1 g s d v ts.tail ns ∧ Bx w0 w u1 g q v v ⟨10, 0, 0, 0⟩) := hideIt (by rw [hu1]; exact ⟨y9.far (but_one _ _ _ _) B1.hq B1.own B1.h0, B1.put 0 10 rfl⟩)
    clear y9 b9 B1
    go_wp2_with fail
    rw [← hu1]
    clear hu1 m0 n0 l0
    rcases hnm : tickOf (hdT ts.tail) with _ | k
    · have HW2 : Hid (pU (n + 1) d (wds ts) ns = .error ts.tail.length) := hideIt (by rw [HI.out]; unfold tkP; rw [← wds_tail, hd_wds, hnm, wds_length])
      have HNm := hideIt hnm
      clear hnm
      refine (tickD_no HC1.out.1 HNm.out).mono ?_
      rintro e u2 ⟨rfl, y2, b2⟩
      have B2 := HC1.out.2.goes (Goes.one b2)
      have m0 := blk_soft B2.blk 3
      have n0 := blk_cell B2.blk (i := 3) rfl
      have l0 := blk_lt B2.blk
      obtain ⟨u3, hu3⟩ : ∃ W, W = u2.setCell ⟨q, 3, none⟩ (.int .i64 0) := ⟨_, rfl⟩
      have HC3 : Hid (RfW w0 u3 g s d v ts.tail.length ns.length ∧ Bx w0 w u3 g q v v ⟨10, 0, 0, 0⟩) := hideIt (by rw [hu3]; exact ⟨y2.far (but_one _ _ _ _) B2.hq B2.own B2.h0, B2.put 3 0 rfl⟩)
      clear y2 b2 B2
      go_wp2_with fail
      rw [← hu3]
      clear hu3 m0 n0 l0
      refine (unary_wrong HC3.out.1).mono ?_
      rintro e u5 ⟨rfl, hu5⟩
      have B5 : Bx w0 w u5 g q v v ⟨10, 0, 0, 0⟩ := by rw [hu5]; exact HC3.out.2
      have y5 : RfW w0 u5 g s d v ts.tail.length ns.length := by rw [hu5]; exact HC3.out.1
      clear hu5
      have r3 := blk_soft B5.blk 1
      have r0 := blk_cell B5.blk (i := 0) rfl
      have r1 := blk_cell B5.blk (i := 1) rfl
      have r2 := blk_cell B5.blk (i := 2) rfl
      have r4 := blk_cell B5.blk (i := 3) rfl
      have l5 := blk_lt B5.blk
      obtain ⟨u6, hu6⟩ : ∃ W, W = u5.setCell ⟨q, 1, none⟩ (.int .i64 0) := ⟨_, rfl⟩
      have HC6 : Hid (RfW w0 u6 g s d v ts.tail.length ns.length ∧ Bx w0 w u6 g q v v ⟨10, 0, 0, 0⟩) := hideIt (by rw [hu6]; exact ⟨y5.far (but_one _ _ _ _) B5.hq B5.own B5.h0, B5.put 1 0 rfl⟩)
      have HPw := hideIt (putW HC6.out.1 ⟨10, 0, 0, 0⟩ (by have h1 := HX.out.few; omega))
      unfold Nd.val at HPw
      clear y5 B5
      go_wp2_with fail
      rw [← hu6]
      clear hu6
      refine HPw.out.mono ?_
      rintro e u7 ⟨z7, v7, rfl, y7, k7⟩
      have HY7 := hideIt (And.intro (y7.more (m' := ns.length + ts.length) (by have h2 := HL.out; omega)) (HC6.out.2.go.trans k7))
      clear y7 k7
      go_wp2
      go_ret
      rw [HW2.out]
      exact ⟨z7, v7, rfl, HY7.out.1, HY7.out.2⟩
    · have HI2 : Hid (pU (n + 1) d (wds ts) ns = unP 10 k (pU n d (wds ts.tail.tail) ns)) := hideIt (by rw [HI.out]; unfold tkP; rw [← wds_tail, hd_wds, hnm, ← wds_tail])
      have HNm := hideIt hnm
      clear hnm
      refine (tickD_yes HC1.out.1 HNm.out).mono ?_
      rintro e u2 ⟨rfl, y2, b2⟩
      have B2 := HC1.out.2.goes (Goes.one b2)
      have m0 := blk_soft B2.blk 3
      have n0 := blk_cell B2.blk (i := 3) rfl
      have l0 := blk_lt B2.blk
      obtain ⟨u3, hu3⟩ : ∃ W, W = u2.setCell ⟨q, 3, none⟩ (.int .i64 (k : Int)) := ⟨_, rfl⟩
      have HC3 : Hid (RfX w0 u3 g s d v ts.tail.tail ns ∧ Bx w0 w u3 g q v v ⟨10, 0, 0, (k : Int)⟩) := hideIt (by rw [hu3]; exact ⟨y2.far (but_one _ _ _ _) B2.hq B2.own B2.h0, B2.put 3 (k : Int) rfl⟩)
      clear y2 b2 B2
      go_wp2_with fail
      rw [← hu3]
      clear hu3 m0 n0 l0
      rcases hr : pU n d (wds ts.tail.tail) ns with k1 | h
      · have HW2 : Hid (pU (n + 1) d (wds ts) ns = .error k1) := hideIt (HI2.out.trans (bnd_no hr))
        have HR := hideIt hr
        clear hr
        refine (HD.out.no HR.out (by have := HN.out; have h2 := HL.out; simp at h2 ⊢; omega) HC3.out.1).mono ?_
        rintro e u5 ⟨z5, v5, rfl, y5, k5⟩
        have B5 := HC3.out.2.goes k5
        have r3 := blk_soft B5.blk 1
        have r0 := blk_cell B5.blk (i := 0) rfl
        have r1 := blk_cell B5.blk (i := 1) rfl
        have r2 := blk_cell B5.blk (i := 2) rfl
        have r4 := blk_cell B5.blk (i := 3) rfl
        have l5 := blk_lt B5.blk
        obtain ⟨u6, hu6⟩ : ∃ W, W = u5.setCell ⟨q, 1, none⟩ (.int .i64 z5) := ⟨_, rfl⟩
        have HC6 : Hid (RfW w0 u6 g s d v5 k1 (ns.length + (ts.tail.tail).length) ∧ Bx w0 w u6 g q v v5 ⟨10, z5, 0, (k : Int)⟩) := hideIt (by rw [hu6]; exact ⟨y5.far (but_one _ _ _ _) B5.hq B5.own B5.h0, B5.put 1 z5 rfl⟩)
        have HPw := hideIt (putW HC6.out.1 ⟨10, z5, 0, (k : Int)⟩ (by have h1 := HX.out.few; have h2 := HL.out; simp at h2 ⊢; omega))
        unfold Nd.val at HPw
        clear y5 k5 B5
        go_wp2_with fail
        rw [← hu6]
        clear hu6
        refine HPw.out.mono ?_
        rintro e u7 ⟨z7, v7, rfl, y7, k7⟩
        have HY7 := hideIt (And.intro (y7.more (m' := ns.length + ts.length) (by have h2 := HL.out; simp at h2 ⊢; omega)) (HC6.out.2.go.trans k7))
        clear y7 k7
        go_wp2
        go_ret
        rw [HW2.out]
        exact ⟨z7, v7, rfl, HY7.out.1, HY7.out.2⟩
      · have HW2 : Hid (pU (n + 1) d (wds ts) ns = putN h.ns ⟨10, h.i, 0, k⟩ h.ws) := hideIt (HI2.out.trans (bnd_ok hr))
        have f1 := fine_pU n d (wds ts.tail.tail) ns
        rw [hr] at f1
        have HF := hideIt f1
        have HR := hideIt hr
        clear hr f1
        refine (HD.out.yes HR.out (by have := HN.out; have h2 := HL.out; simp at h2 ⊢; omega) HC3.out.1).mono ?_
        rintro e u5 ⟨v5, ts5, e5, rfl, y5, k5⟩
        have B5 := HC3.out.2.goes k5
        have r3 := blk_soft B5.blk 1
        have r0 := blk_cell B5.blk (i := 0) rfl
        have r1 := blk_cell B5.blk (i := 1) rfl
        have r2 := blk_cell B5.blk (i := 2) rfl
        have r4 := blk_cell B5.blk (i := 3) rfl
        have l5 := blk_lt B5.blk
        obtain ⟨u6, hu6⟩ : ∃ W, W = u5.setCell ⟨q, 1, none⟩ (.int .i64 (h.i : Int)) := ⟨_, rfl⟩
        have HC6 : Hid (RfX w0 u6 g s d v5 ts5 h.ns ∧ Bx w0 w u6 g q v v5 ⟨10, h.i, 0, (k : Int)⟩) := hideIt (by rw [hu6]; exact ⟨y5.far (but_one _ _ _ _) B5.hq B5.own B5.h0, B5.put 1 (h.i : Int) rfl⟩)
        have HE5 := hideIt e5
        have HPx := hideIt (putX HC6.out.1 ⟨10, h.i, 0, (k : Int)⟩ (by have h1 := HX.out.few; have h2 := HL.out; have h3 := HF.out.2.2.2; have h4 := wds_length ts5; rw [e5] at h4; rw [wds_length] at h3; simp at h2 h3 ⊢; omega))
        unfold Nd.val at HPx
        clear y5 k5 e5 B5
        go_wp2_with fail
        rw [← hu6]
        clear hu6
        refine HPx.out.mono ?_
        rintro e u7 ⟨v7, rfl, y7, k7⟩
        have HY7 := hideIt (And.intro y7 (HC6.out.2.go.trans k7))
        clear y7 k7
        go_wp2
        go_ret
        rw [HW2.out]
        exact ⟨v7, ts5, HE5.out, rfl, HY7.out.1, HY7.out.2⟩
  · have HM := hideIt hm
    clear hm
    refine (take_no (t := wNot) HB0.out.1 (by rw [HM.out]; decide)).mono ?_
    rintro e t0 ⟨rfl, y9, b9⟩
    have HB1 := hideIt (And.intro y9 (HB0.out.2.goes (Goes.one b9)))
    clear y9 b9
    go_wp2_with fail
    refine (take_no (t := wPrev) HB1.out.1 (by rw [HM.out]; decide)).mono ?_
    rintro e t1 ⟨rfl, y9, b9⟩
    have HB2 := hideIt (And.intro y9 (HB1.out.2.goes (Goes.one b9)))
    clear y9 b9
    go_wp2_with fail
    refine (take_no (t := wOnce) HB2.out.1 (by rw [HM.out]; decide)).mono ?_
    rintro e t2 ⟨rfl, y9, b9⟩
    have HB3 := hideIt (And.intro y9 (HB2.out.2.goes (Goes.one b9)))
    clear y9 b9
    have hl0 := hd_tail (ws := wds ts) (by rw [hd_wds, HM.out]; decide)
    rw [← wds_tail, wds_length, wds_length] at hl0
    have HL := hideIt hl0
    have HI := hideIt (HIs.out.2.2.2.1 HM.out)
    clear hl0
    go_wp2_with fail
    refine (take_yes (t := wHist) HB3.out.1 HM.out).mono ?_
    rintro e u0 ⟨rfl, y9, b9⟩
    have B1 := HB3.out.2.goes (Goes.one b9)
    have m0 := blk_soft B1.blk 0
    have n0 := blk_cell B1.blk (i := 0) rfl
    have l0 := blk_lt B1.blk
    obtain ⟨u1, hu1⟩ : ∃ W, W = u0.setCell ⟨q, 0, none⟩ (.int .i64 11) := ⟨_, rfl⟩
    have HC1 : Hid (RfX w0 u1 g s d v ts.tail ns ∧ Bx w0 w u1 g q v v ⟨11, 0, 0, 0⟩) := hideIt (by rw [hu1]; exact ⟨y9.far (but_one _ _ _ _) B1.hq B1.own B1.h0, B1.put 0 11 rfl⟩)
    clear y9 b9 B1
    go_wp2_with fail
    rw [← hu1]
    clear hu1 m0 n0 l0
    rcases hnm : tickOf (hdT ts.tail) with _ | k
    · have HW2 : Hid (pU (n + 1) d (wds ts) ns = .error ts.tail.length) := hideIt (by rw [HI.out]; unfold tkP; rw [← wds_tail, hd_wds, hnm, wds_length])
      have HNm := hideIt hnm
      clear hnm
      refine (tickD_no HC1.out.1 HNm.out).mono ?_
      rintro e u2 ⟨rfl, y2, b2⟩
      have B2 := HC1.out.2.goes (Goes.one b2)
      have m0 := blk_soft B2.blk 3
      have n0 := blk_cell B2.blk (i := 3) rfl
      have l0 := blk_lt B2.blk
      obtain ⟨u3, hu3⟩ : ∃ W, W = u2.setCell ⟨q, 3, none⟩ (.int .i64 0) := ⟨_, rfl⟩
      have HC3 : Hid (RfW w0 u3 g s d v ts.tail.length ns.length ∧ Bx w0 w u3 g q v v ⟨11, 0, 0, 0⟩) := hideIt (by rw [hu3]; exact ⟨y2.far (but_one _ _ _ _) B2.hq B2.own B2.h0, B2.put 3 0 rfl⟩)
      clear y2 b2 B2
      go_wp2_with fail
      rw [← hu3]
      clear hu3 m0 n0 l0
      refine (unary_wrong HC3.out.1).mono ?_
      rintro e u5 ⟨rfl, hu5⟩
      have B5 : Bx w0 w u5 g q v v ⟨11, 0, 0, 0⟩ := by rw [hu5]; exact HC3.out.2
      have y5 : RfW w0 u5 g s d v ts.tail.length ns.length := by rw [hu5]; exact HC3.out.1
      clear hu5
      have r3 := blk_soft B5.blk 1
      have r0 := blk_cell B5.blk (i := 0) rfl
      have r1 := blk_cell B5.blk (i := 1) rfl
      have r2 := blk_cell B5.blk (i := 2) rfl
      have r4 := blk_cell B5.blk (i := 3) rfl
      have l5 := blk_lt B5.blk
      obtain ⟨u6, hu6⟩ : ∃ W, W = u5.setCell ⟨q, 1, none⟩ (.int .i64 0) := ⟨_, rfl⟩
      have HC6 : Hid (RfW w0 u6 g s d v ts.tail.length ns.length ∧ Bx w0 w u6 g q v v ⟨11, 0, 0, 0⟩) := hideIt (by rw [hu6]; exact ⟨y5.far (but_one _ _ _ _) B5.hq B5.own B5.h0, B5.put 1 0 rfl⟩)
      have HPw := hideIt (putW HC6.out.1 ⟨11, 0, 0, 0⟩ (by have h1 := HX.out.few; omega))
      unfold Nd.val at HPw
      clear y5 B5
      go_wp2_with fail
      rw [← hu6]
      clear hu6
      refine HPw.out.mono ?_
      rintro e u7 ⟨z7, v7, rfl, y7, k7⟩
      have HY7 := hideIt (And.intro (y7.more (m' := ns.length + ts.length) (by have h2 := HL.out; omega)) (HC6.out.2.go.trans k7))
      clear y7 k7
      go_wp2
      go_ret
      rw [HW2.out]
      exact ⟨z7, v7, rfl, HY7.out.1, HY7.out.2⟩
    · have HI2 : Hid (pU (n + 1) d (wds ts) ns = unP 11 k (pU n d (wds ts.tail.tail) ns)) := hideIt (by rw [HI.out]; unfold tkP; rw [← wds_tail, hd_wds, hnm, ← wds_tail])
      have HNm := hideIt hnm
      clear hnm
      refine (tickD_yes HC1.out.1 HNm.out).mono ?_
      rintro e u2 ⟨rfl, y2, b2⟩
      have B2 := HC1.out.2.goes (Goes.one b2)
      have m0 := blk_soft B2.blk 3
      have n0 := blk_cell B2.blk (i := 3) rfl
      have l0 := blk_lt B2.blk
      obtain ⟨u3, hu3⟩ : ∃ W, W = u2.setCell ⟨q, 3, none⟩ (.int .i64 (k : Int)) := ⟨_, rfl⟩
      have HC3 : Hid (RfX w0 u3 g s d v ts.tail.tail ns ∧ Bx w0 w u3 g q v v ⟨11, 0, 0, (k : Int)⟩) := hideIt (by rw [hu3]; exact ⟨y2.far (but_one _ _ _ _) B2.hq B2.own B2.h0, B2.put 3 (k : Int) rfl⟩)
      clear y2 b2 B2
      go_wp2_with fail
      rw [← hu3]
      clear hu3 m0 n0 l0
      rcases hr : pU n d (wds ts.tail.tail) ns with k1 | h
      · have HW2 : Hid (pU (n + 1) d (wds ts) ns = .error k1) := hideIt (HI2.out.trans (bnd_no hr))
        have HR := hideIt hr
        clear hr
        refine (HD.out.no HR.out (by have := HN.out; have h2 := HL.out; simp at h2 ⊢; omega) HC3.out.1).mono ?_
        rintro e u5 ⟨z5, v5, rfl, y5, k5⟩
        have B5 := HC3.out.2.goes k5
        have r3 := blk_soft B5.blk 1
        have r0 := blk_cell B5.blk (i := 0) rfl
        have r1 := blk_cell B5.blk (i := 1) rfl
        have r2 := blk_cell B5.blk (i := 2) rfl
        have r4 := blk_cell B5.blk (i := 3) rfl
        have l5 := blk_lt B5.blk
        obtain ⟨u6, hu6⟩ : ∃ W, W = u5.setCell ⟨q, 1, none⟩ (.int .i64 z5) := ⟨_, rfl⟩
        have HC6 : Hid (RfW w0 u6 g s d v5 k1 (ns.length + (ts.tail.tail).length) ∧ Bx w0 w u6 g q v v5 ⟨11, z5, 0, (k : Int)⟩) := hideIt (by rw [hu6]; exact ⟨y5.far (but_one _ _ _ _) B5.hq B5.own B5.h0, B5.put 1 z5 rfl⟩)
        have HPw := hideIt (putW HC6.out.1 ⟨11, z5, 0, (k : Int)⟩ (by have h1 := HX.out.few; have h2 := HL.out; simp at h2 ⊢; omega))
        unfold Nd.val at HPw
        clear y5 k5 B5
        go_wp2_with fail
        rw [← hu6]
        clear hu6
        refine HPw.out.mono ?_
        rintro e u7 ⟨z7, v7, rfl, y7, k7⟩
        have HY7 := hideIt (And.intro (y7.more (m' := ns.length + ts.length) (by have h2 := HL.out; simp at h2 ⊢; omega)) (HC6.out.2.go.trans k7))
        clear y7 k7
        go_wp2
        go_ret
        rw [HW2.out]
        exact ⟨z7, v7, rfl, HY7.out.1, HY7.out.2⟩
      · have HW2 : Hid (pU (n + 1) d (wds ts) ns = putN h.ns ⟨11, h.i, 0, k⟩ h.ws) := hideIt (HI2.out.trans (bnd_ok hr))
        have f1 := fine_pU n d (wds ts.tail.tail) ns
        rw [hr] at f1
        have HF := hideIt f1
        have HR := hideIt hr
        clear hr f1
        refine (HD.out.yes HR.out (by have := HN.out; have h2 := HL.out; simp at h2 ⊢; omega) HC3.out.1).mono ?_
        rintro e u5 ⟨v5, ts5, e5, rfl, y5, k5⟩
        have B5 := HC3.out.2.goes k5
        have r3 := blk_soft B5.blk 1
        have r0 := blk_cell B5.blk (i := 0) rfl
        have r1 := blk_cell B5.blk (i := 1) rfl
        have r2 := blk_cell B5.blk (i := 2) rfl
        have r4 := blk_cell B5.blk (i := 3) rfl
        have l5 := blk_lt B5.blk
        obtain ⟨u6, hu6⟩ : ∃ W, W = u5.setCell ⟨q, 1, none⟩ (.int .i64 (h.i : Int)) := ⟨_, rfl⟩
        have HC6 : Hid (RfX w0 u6 g s d v5 ts5 h.ns ∧ Bx w0 w u6 g q v v5 ⟨11, h.i, 0, (k : Int)⟩) := hideIt (by rw [hu6]; exact ⟨y5.far (but_one _ _ _ _) B5.hq B5.own B5.h0, B5.put 1 (h.i : Int) rfl⟩)
        have HE5 := hideIt e5
        have HPx := hideIt (putX HC6.out.1 ⟨11, h.i, 0, (k : Int)⟩ (by have h1 := HX.out.few; have h2 := HL.out; have h3 := HF.out.2.2.2; have h4 := wds_length ts5; rw [e5] at h4; rw [wds_length] at h3; simp at h2 h3 ⊢; omega))
        unfold Nd.val at HPx
        clear y5 k5 e5 B5
        go_wp2_with fail
        rw [← hu6]
        clear hu6
        refine HPx.out.mono ?_
        rintro e u7 ⟨v7, rfl, y7, k7⟩
        have HY7 := hideIt (And.intro y7 (HC6.out.2.go.trans k7))
        clear y7 k7
        go_wp2
        go_ret
        rw [HW2.out]
        exact ⟨v7, ts5, HE5.out, rfl, HY7.out.1, HY7.out.2⟩
  · have HM := hideIt hm
    clear hm
    refine (take_no (t := wNot) HB0.out.1 HM.out.1).mono ?_
    rintro e t0 ⟨rfl, y9, b9⟩
    have HB1 := hideIt (And.intro y9 (HB0.out.2.goes (Goes.one b9)))
    clear y9 b9
    go_wp2_with fail
    refine (take_no (t := wPrev) HB1.out.1 HM.out.2.1).mono ?_
    rintro e t1 ⟨rfl, y9, b9⟩
    have HB2 := hideIt (And.intro y9 (HB1.out.2.goes (Goes.one b9)))
    clear y9 b9
    go_wp2_with fail
    refine (take_no (t := wOnce) HB2.out.1 HM.out.2.2.1).mono ?_
    rintro e t2 ⟨rfl, y9, b9⟩
    have HB3 := hideIt (And.intro y9 (HB2.out.2.goes (Goes.one b9)))
    clear y9 b9
    go_wp2_with fail
    refine (take_no (t := wHist) HB3.out.1 HM.out.2.2.2).mono ?_
    rintro e t3 ⟨rfl, y9, b9⟩
    have HB4 := hideIt (And.intro y9 (HB3.out.2.goes (Goes.one b9)))
    clear y9 b9
    go_wp2_with fail
    refine (HAtm.out h4 _ HB4.out.1).mono ?_
    intro e u1 ht
    rcases hr : pU (n + 1) d (wds ts) ns with k9 | h9
    · rw [hr] at ht
      obtain ⟨z9, v9, rfl, y9, k9'⟩ := ht
      have HY9 := hideIt (And.intro y9 (HB4.out.2.go.trans k9'))
      have HR := hideIt hr
      clear y9 k9' hr
      go_wp2_with fail
      go_ret
      rw [HR.out]
      exact ⟨z9, v9, rfl, HY9.out.1, HY9.out.2⟩
    · rw [hr] at ht
      obtain ⟨v9, ts9, e9, rfl, y9, k9'⟩ := ht
      have HY9 := hideIt (And.intro e9 (And.intro y9 (HB4.out.2.go.trans k9')))
      have HR := hideIt hr
      clear y9 k9' e9 hr
      go_wp2_with fail
      go_ret
      rw [HR.out]
      exact ⟨v9, ts9, HY9.out.1, rfl, HY9.out.2.1, HY9.out.2.2⟩
/-- The whole grammar. -/
theorem unaryD_all {w0 : World} {g : Nat} {s : W8} : ∀ n d, DDoes 98 w0 g s d (pU n d) n
  | 0, _ => fun w v ts ns hn _ => absurd hn (by omega)
  | n + 1, d => unaryD (unaryD_all n d) (fun _ => orD (fine_and (fine_pU n (d + 1))) (andD (fine_sin (fine_pU n (d + 1))) (sinceD (fine_pU n (d + 1)) (unaryD_all n (d + 1)))))
theorem orD_all {w0 : World} {g : Nat} {s : W8} (n d : Nat) : DDoes 30 w0 g s d (orP (pU n d)) n :=
  orD (fine_and (fine_pU n d)) (andD (fine_sin (fine_pU n d)) (sinceD (fine_pU n d) (unaryD_all n d)))
theorem RfX.at_end {w0 w : World} {g : Nat} {s : W8} {d : Nat} {v : Value} {ts : List (Nat × W8)} {ns : List Nd} (x : RfX w0 w g s d v ts ns) : Calls Tryz.prog 31 #[Ptr g] w fun e w' => e = .returned (.tuple #[]) ∧ RfM w0 w' g s (pl s.length ts) false d v ns := by
  obtain ⟨i, y, h1, h2⟩ := x.ex
  obtain ⟨k1, k2, k3⟩ := cur_of (s := s) (i := i) h1 x.tail h2
  refine (blanks_doc y h1 x.len).mono ?_
  rintro e w' ⟨rfl, z, b⟩
  rw [← k1] at z
  exact ⟨rfl, z⟩
theorem RfW.at_end {w0 w : World} {g : Nat} {s : W8} {d : Nat} {v : Value} {k m : Nat} (x : RfW w0 w g s d v k m) : Calls Tryz.prog 31 #[Ptr g] w fun e w' => e = .returned (.tuple #[]) ∧ ∃ ns, RfM w0 w' g s (plc s k) true d v ns := by
  obtain ⟨i, ns, y, h1, h2, h3, h4⟩ := x.ex
  obtain ⟨k1, k2, k3⟩ := cur_of (s := s) (i := i) h1 h3 rfl
  refine (blanks_doc y h1 x.len).mono ?_
  rintro e w' ⟨rfl, z, b⟩
  rw [← k1, ← k3.plc, h2] at z
  exact ⟨rfl, ns, z⟩
/-- What the document's Parse answers. -/
theorem parseD (s : W8) (w : World) (hz : s.length ≤ maxLen) : Calls Tryz.prog 15 #[.string (S s)] w fun e w' => ∃ a c, e = .returned (.tuple #[.slice a (parseA s).ns.length c, .int .i64 ((parseA s).at_ : Int), .int .i64 (parseA s).e]) ∧ ORow ndE 33 w' w.heap.size (.slice a (parseA s).ns.length c) (parseA s).ns ∧ After w w' := by
  unfold maxLen at hz
  by_cases h1 : 1024 < s.length
  · have i1 : (1024 : Int) < ((S s).size : Int) := by rw [L1.S_size]; omega
    have HP : Hid (parseA s = ⟨[], 1024, 5⟩) := hideIt (by unfold parseA; rw [if_pos h1])
    clear hz h1
    go_enter Tryz.func15, Tryz.ntmps15
    go_wp2
    go_ret3
    rw [HP.out]
    exact ⟨none, 0, rfl, orow_nil _ _ _ _, After.rfl⟩
  · have i1 : ¬ (1024 : Int) < ((S s).size : Int) := by rw [L1.S_size]; omega
    have HS : Hid (s.length ≤ 1024) := hideIt (by omega)
    have HM : Hid (RfM w (w.alloc (.cells #[.string (S s), .int .i64 0, .bool false, .int .i64 0, .slice none 0 0] 62)) w.heap.size s 0 false 0 (.slice none 0 0) []) :=
      hideIt ⟨heap_alloc_new w _, orow_nil _ _ _ _, Nat.le_refl _, After.rfl.alloc _⟩
    have HX : Hid (RfX w (w.alloc (.cells #[.string (S s), .int .i64 0, .bool false, .int .i64 0, .slice none 0 0] 62)) w.heap.size s 0 (.slice none 0 0) (lex 0 s) []) :=
      hideIt ⟨⟨0, HM.out, Nat.zero_le _, by rw [List.drop_zero]⟩, HS.out, ⟨[], rfl⟩, by have := lex_few s 0; have := HS.out; simp; omega, by omega⟩
    have HD := hideIt (orD_all (w0 := w) (g := w.heap.size) (s := s) ((lex 0 s).length + 1) 0 _ _ _ _ (by omega) HX.out)
    have eW : wholeP (wds (lex 0 s)) = bnd (orP (pU ((lex 0 s).length + 1) 0) (wds (lex 0 s)) []) (fun g => if hd g.ws = [] then .ok g else .error g.ws.length) := by unfold wholeP; rw [wds_length]
    have e0 : parseA s = match wholeP (wds (lex 0 s)) with
      | .error k => ⟨[], plc s k, 4⟩
      | .ok g => if 32 < g.ns.length then ⟨[], s.length, 6⟩ else ⟨g.ns, 0, 0⟩ := by unfold parseA; rw [if_neg h1]; rfl
    obtain ⟨gg, hgg⟩ : ∃ g, g = w.heap.size := ⟨_, rfl⟩
    rw [← hgg] at HD
    clear hz h1
    rcases hr : orP (pU ((lex 0 s).length + 1) 0) (wds (lex 0 s)) [] with k | h
    · rw [eW, bnd_no hr] at e0
      rw [hr] at HD
      have HP : Hid (parseA s = ⟨[], plc s k, 4⟩) := hideIt e0
      clear e0 hr eW
      go_enter Tryz.func15, Tryz.ntmps15
      go_wp2_with fail
      rw [← hgg]
      refine HD.out.mono ?_
      rintro e w1 ⟨z1, v1, rfl, y1, k1⟩
      have HY1 := hideIt y1
      clear y1 k1
      go_wp2_with fail
      rw [← hgg]
      refine HY1.out.at_end.mono ?_
      rintro e w2 ⟨rfl, ns2, y2⟩
      have HA2 := hideIt y2.aft
      obtain ⟨hg2, s0, s1, s2, s3, s4, -⟩ := five_at y2.blk
      rw [hgg] at s0 s1 s2 s3 s4 hg2
      clear y2
      go_wp2
      go_quiet (fail)
      go_wp2
      go_ret3
      rw [HP.out]
      exact ⟨none, 0, rfl, orow_nil _ _ _ _, HA2.out.draws _⟩
    · rw [eW, bnd_ok hr] at e0
      rw [hr] at HD
      by_cases hc : hd h.ws = []
      · rw [if_pos hc] at e0
        have e1 : parseA s = if 32 < h.ns.length then ⟨[], s.length, 6⟩ else ⟨h.ns, 0, 0⟩ := e0
        have HC := hideIt hc
        by_cases hm : 32 < h.ns.length
        · rw [if_pos hm] at e1
          have HP := hideIt e1
          have i2 : (32 : Int) < (h.ns.length : Int) := by omega
          clear e0 e1 hr hm eW hc
          go_enter Tryz.func15, Tryz.ntmps15
          go_wp2_with fail
          rw [← hgg]
          refine HD.out.mono ?_
          rintro e w1 ⟨v1, ts1, e1, rfl, y1, k1⟩
          have hts : ts1 = [] := by
            cases ts1 with
            | nil => rfl
            | cons t r =>
              obtain ⟨i, z, h1, h2⟩ := y1.ex
              have hk3 := (cur_of (s := s) (i := i) h1 y1.tail h2).2.2
              exact absurd (by have := HC.out; rw [← e1] at this; exact this) (hk3.ne t (List.mem_cons_self ..))
          rw [hts] at y1
          have HY1 := hideIt y1
          clear y1 k1 hts e1
          go_wp2_with fail
          rw [← hgg]
          refine HY1.out.at_end.mono ?_
          rintro e w2 ⟨rfl, y2'⟩
          have y2 : RfM w w2 gg s s.length false 0 v1 h.ns := y2'
          clear y2'
          have HA2 := hideIt (And.intro y2.own y2.aft)
          obtain ⟨hg2, s0, s1, s2, s3, s4, -⟩ := five_at y2.blk
          have j1 : ¬ ((s.length : Nat) : Int) < ((S s).size : Int) := by rw [L1.S_size]; omega
          have j3 : ¬ s.length < (S s).size := by rw [L1.S_size]; omega
          obtain ⟨a, c, rfl, -⟩ := y2.own.row
          rw [hgg] at s0 s1 s2 s3 s4 hg2
          clear y2
          go_wp2
          go_ret3
          rw [HP.out]
          exact ⟨none, 0, rfl, orow_nil _ _ _ _, HA2.out.2⟩
        · rw [if_neg hm] at e1
          have HP := hideIt e1
          have i2 : ¬ (32 : Int) < (h.ns.length : Int) := by omega
          clear e0 e1 hr hm eW hc
          go_enter Tryz.func15, Tryz.ntmps15
          go_wp2_with fail
          rw [← hgg]
          refine HD.out.mono ?_
          rintro e w1 ⟨v1, ts1, e1, rfl, y1, k1⟩
          have hts : ts1 = [] := by
            cases ts1 with
            | nil => rfl
            | cons t r =>
              obtain ⟨i, z, h1, h2⟩ := y1.ex
              have hk3 := (cur_of (s := s) (i := i) h1 y1.tail h2).2.2
              exact absurd (by have := HC.out; rw [← e1] at this; exact this) (hk3.ne t (List.mem_cons_self ..))
          rw [hts] at y1
          have HY1 := hideIt y1
          clear y1 k1 hts e1
          go_wp2_with fail
          rw [← hgg]
          refine HY1.out.at_end.mono ?_
          rintro e w2 ⟨rfl, y2'⟩
          have y2 : RfM w w2 gg s s.length false 0 v1 h.ns := y2'
          clear y2'
          have HA2 := hideIt (And.intro y2.own y2.aft)
          obtain ⟨hg2, s0, s1, s2, s3, s4, -⟩ := five_at y2.blk
          have j1 : ¬ ((s.length : Nat) : Int) < ((S s).size : Int) := by rw [L1.S_size]; omega
          have j3 : ¬ s.length < (S s).size := by rw [L1.S_size]; omega
          obtain ⟨a, c, rfl, -⟩ := y2.own.row
          rw [hgg] at s0 s1 s2 s3 s4 hg2
          clear y2
          go_wp2
          go_ret3
          rw [HP.out]
          exact ⟨a, c, rfl, HA2.out.1, HA2.out.2⟩
      · rw [if_neg hc] at e0
        have HP : Hid (parseA s = ⟨[], plc s h.ws.length, 4⟩) := hideIt e0
        have HC := hideIt hc
        clear e0 hr eW hc
        go_enter Tryz.func15, Tryz.ntmps15
        go_wp2_with fail
        rw [← hgg]
        refine HD.out.mono ?_
        rintro e w1 ⟨v1, ts1, e1, rfl, y1, k1⟩
        have hcur : ∃ i, i ≤ s.length ∧ lex i (s.drop i) = ts1 ∧ ∃ pre, lex 0 s = pre ++ ts1 := by
          obtain ⟨i, z, h1, h2⟩ := y1.ex
          exact ⟨i, h1, h2, y1.tail⟩
        obtain ⟨i9, h91, h92, h93⟩ := hcur
        have hk3 := (cur_of (s := s) (i := i9) h91 h93 h92).2.2
        have hlt : pl s.length ts1 < s.length := by
          have h1 := hk3.le
          cases ts1 with
          | nil => exact absurd (by rw [← e1]; rfl) HC.out
          | cons t r =>
            have h2 := hk3.ne t (List.mem_cons_self ..)
            have h3 : t.2.length ≠ 0 := fun e => h2 (List.length_eq_zero_iff.1 e)
            have h4 : pl s.length (t :: r) + t.2.length ≤ s.length := h1
            omega
        have hpe : plc s h.ws.length = pl s.length ts1 := by rw [← e1, wds_length, hk3.plc]
        have HPe := hideIt hpe
        have HY1 := hideIt y1
        obtain ⟨p, hp⟩ : ∃ p, p = pl s.length ts1 := ⟨_, rfl⟩
        rw [← hp] at HPe hlt
        have i3 : (p : Int) < ((S s).size : Int) := by rw [L1.S_size]; omega
        have i4 : decide ((p : Int) < ((S s).size : Int)) = true := by simpa using i3
        clear y1 k1 h91 h92 h93 hk3 hlt hpe e1
        have HE := hideIt HY1.out.at_end
        rw [← hp] at HE
        clear hp
        go_wp2_with fail
        rw [← hgg]
        refine HE.out.mono ?_
        rintro e w2 ⟨rfl, y2⟩
        have HA2 := hideIt y2.aft
        obtain ⟨hg2, s0, s1, s2, s3, s4, -⟩ := five_at y2.blk
        rw [hgg] at s0 s1 s2 s3 s4 hg2
        clear y2
        go_wp2
        go_quiet (fail)
        go_wp2
        go_ret3
        rw [HP.out, HPe.out]
        exact ⟨none, 0, rfl, orow_nil _ _ _ _, HA2.out.draws _⟩
end Go.Proofs.YtlfcihanhfabmaaGreatDoor
