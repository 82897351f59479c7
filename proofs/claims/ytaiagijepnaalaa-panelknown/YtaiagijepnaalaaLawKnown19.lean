/-
  PanelKnown: the chapter's examples, states that may not be, limits.
-/
import Derived.Test.YtaiagijepnaalaaLawApart19
namespace Go.Proofs.Ytaiagijepnaalaa
open Go.RowKit
set_option maxRecDepth 8000
def knL : List As := [⟨0, 0, 0, 0⟩, ⟨1, 3, 0, 1⟩, ⟨1, 0, 0, 0⟩, ⟨1, 4, 0, 0⟩, ⟨4, 1, 0, 0⟩, ⟨(-1), 1, 0, 0⟩, ⟨0, 2, 0, 0⟩, ⟨1, 1, 0, (-1)⟩, ⟨2, (-1), 0, 0⟩]
theorem knL_none : ∀ x ∈ knL, sgOf x = Sg.zero := by decide
theorem make27 (w : World) : (Instr.makeSlice 22 (.int .i64 27) (.int .i64 27)).run Try.prog w = .ok (.slice (some ⟨w.heap.size, 0, none⟩) 27 27) (w.alloc (.cells (asE.flat (List.replicate 27 As.zero)).toArray 35)) := by kernel_rfl
theorem make26 (w : World) : (Instr.makeSlice 22 (.int .i64 26) (.int .i64 26)).run Try.prog w = .ok (.slice (some ⟨w.heap.size, 0, none⟩) 26 26) (w.alloc (.cells (asE.flat (List.replicate 26 As.zero)).toArray 35)) := by kernel_rfl
theorem makeB5 (w : World) : (Instr.makeSlice 23 (.int .i64 5) (.int .i64 5)).run Try.prog w = .ok (.slice (some ⟨w.heap.size, 0, none⟩) 5 5) (w.alloc (.cells (blE.flat (List.replicate 5 false)).toArray 4)) := by kernel_rfl
theorem makeB4 (w : World) : (Instr.makeSlice 23 (.int .i64 4) (.int .i64 4)).run Try.prog w = .ok (.slice (some ⟨w.heap.size, 0, none⟩) 4 4) (w.alloc (.cells (blE.flat (List.replicate 4 false)).toArray 4)) := by kernel_rfl
section
variable {ops : Array Oper} {rest : List Oper} {o : Oper} {a : Act} {w : World} {Q : Exit → Act → World → Prop}
theorem wl_make {t T : TypeId} {p q v : Value} {C : Array Value} (hgd : o.guard = none) (ho : o.op = .makeSlice t (.const p) (.const q)) (hr : (Instr.makeSlice t p q).run Try.prog w = .ok v (w.alloc (.cells C T)))
    (h : ∀ w', w'.heap[w.heap.size]? = some (.cells C T (0, 0)) → After w w' → wpList Try.prog ops Q rest (a.put o.dst v) w') : wpList Try.prog ops Q (o :: rest) a w :=
  wl_val (s := Instr.makeSlice t p q) hgd (by unfold execOp; rw [ho]; rfl) hr (h _ (heap_alloc_new w _) (After.rfl.alloc _))
/-- A value, guarded or not. -/
theorem wl_gval {s : Sem Value} {v : Value} (hw : Region.wanted o (yielded ops a.tmps) = true) (he : execOp a.eval o = (do pure (.value (← s)))) (hs : s.run Try.prog w = .ok v w) (h : wpList Try.prog ops Q rest (a.put o.dst v) w) : wpList Try.prog ops Q (o :: rest) a w :=
  wpList_step fun K hK => by
    rw [if_pos hw]
    exact pw_val he hs (hK _ _ h)
theorem wl_gbin {op : BinOp} {t t' : Nat} {x y : Operand} {p q v : Value} (ho : o.op = .binOp op t x y t') (hw : Region.wanted o (yielded ops a.tmps) = true) (hx : a.eval x = p) (hy : a.eval y = q) (hr : (do eqGuard op t x y p q; binOp op t p q : Sem Value).run Try.prog w = .ok v w) (h : wpList Try.prog ops Q rest (a.put o.dst v) w) : wpList Try.prog ops Q (o :: rest) a w := by
  refine wl_gval (s := do eqGuard op t x y (a.eval x) (a.eval y); binOp op t (a.eval x) (a.eval y)) hw (by unfold execOp; rw [ho]) ?_ h
  rw [hx, hy]
  exact hr
theorem wl_gbuild1 {T : TypeId} {i : Nat} {x : Operand} {u v : Value} (ho : o.op = .build T #[(i, x)]) (hw : Region.wanted o (yielded ops a.tmps) = true) (hx : a.eval x = u) (hr : (Instr.build T #[(i, u)]).run Try.prog w = .ok v w) (h : wpList Try.prog ops Q rest (a.put o.dst v) w) : wpList Try.prog ops Q (o :: rest) a w :=
  wl_gval (s := Instr.build T #[(i, u)]) hw (by unfold execOp; simp [ho, hx]) hr h
end
theorem eqVecs (x y : Operand) {v : Vec} (hv : v.Ok) (w : World) : (do eqGuard .eql 29 x y v.v v.v; binOp .eql 29 v.v v.v : Sem Value).run Try.prog w = .ok (.bool true) w := by
  simp only [Sem.run_bind, run_eqGuard_agg w .eql _ x y _ _ Try.eqGuardType29, Result.andThen_ok, run_eql_struct, eqVec 9996 hv]
def knA : List As := (List.replicate 26 As.zero).set 25 ⟨3, 2, 0, 0⟩
def knV : Vec := ofV knA true (List.replicate 4 false)
def knE : Vec := ofV [] false []
theorem buildE (w : World) : (Instr.build 29 #[(4, .agg #[.bool true, .bool true, .bool true, .bool true])]).run Try.prog w = .ok knE.v w := by kernel_rfl
theorem knV_sg : knV.sg[25]? = some ⟨true, true, 2⟩ := by decide
theorem knV_top : knV.top = 2 := by decide
theorem knV_tone : knV.tone = 2 := by decide
theorem kn_ve : grv knV knE = true := by decide
theorem kn_ev : grv knE knV = false := by decide
set_option maxHeartbeats 1000000 in
theorem law_known19 (w : World) : Calls Try.prog 8 #[] w fun e w' => e = .returned (.bool true) ∧ After w w' := by
  obtain ⟨w0, h0⟩ : ∃ w0, w0 = w.alloc (.cells #[.bool false, .bool false, .int .i64 0] 25) := ⟨_, rfl⟩
  have hb0 : w0.heap[w.heap.size]? = some (.cells #[.bool false, .bool false, .int .i64 0] 25 (0, 0)) := by rw [h0]; exact heap_alloc_new w _
  have a0 : After w w0 := by rw [h0]; exact After.rfl.alloc _
  have B := hideIt (And.intro hb0 a0)
  clear hb0 a0
  go_enter Try.func8, Try.ntmps8
  go_upto_region 2 with fail
  rw [← h0]
  clear h0
  go_wp2_with fail
  refine (signal_any w0 ⟨1, 2, 0, 0⟩).mono ?_
  rintro e w1 ⟨rfl, bb⟩
  rw [show sgOf ⟨1, 2, 0, 0⟩ = ⟨true, true, 2⟩ from rfl]
  have B' := hideIt (And.intro (After.at bb B.out.1) (B.out.2.trans bb))
  clear bb B
  have B := B'
  clear B'
  go_wp2_with fail
  refine (signal_any w1 ⟨2, 2, 9, 0⟩).mono ?_
  rintro e w2 ⟨rfl, bb⟩
  rw [show sgOf ⟨2, 2, 9, 0⟩ = ⟨true, false, 2⟩ from rfl]
  have B' := hideIt (And.intro (After.at bb B.out.1) (B.out.2.trans bb))
  clear bb B
  have B := B'
  clear B'
  go_wp2_with fail
  refine (signal_any w2 ⟨3, 1, 0, 0⟩).mono ?_
  rintro e w3 ⟨rfl, bb⟩
  rw [show sgOf ⟨3, 1, 0, 0⟩ = ⟨true, true, 1⟩ from rfl]
  have B' := hideIt (And.intro (After.at bb B.out.1) (B.out.2.trans bb))
  clear bb B
  have B := B'
  clear B'
  go_upto_region 4 with fail
  have hA4 : After w3 (w3.alloc (.cells #[.int .i64 0, .int .i64 0, .int .i64 0, .int .i64 0, .int .i64 1, .int .i64 3, .int .i64 0, .int .i64 1, .int .i64 1, .int .i64 0, .int .i64 0, .int .i64 0, .int .i64 1, .int .i64 4, .int .i64 0, .int .i64 0, .int .i64 4, .int .i64 1, .int .i64 0, .int .i64 0, .int .i64 (-1), .int .i64 1, .int .i64 0, .int .i64 0, .int .i64 0, .int .i64 2, .int .i64 0, .int .i64 0, .int .i64 1, .int .i64 1, .int .i64 0, .int .i64 (-1), .int .i64 2, .int .i64 (-1), .int .i64 0, .int .i64 0] 35)) := After.rfl.alloc _
  have hB4 : GRow asE (w3.alloc (.cells #[.int .i64 0, .int .i64 0, .int .i64 0, .int .i64 0, .int .i64 1, .int .i64 3, .int .i64 0, .int .i64 1, .int .i64 1, .int .i64 0, .int .i64 0, .int .i64 0, .int .i64 1, .int .i64 4, .int .i64 0, .int .i64 0, .int .i64 4, .int .i64 1, .int .i64 0, .int .i64 0, .int .i64 (-1), .int .i64 1, .int .i64 0, .int .i64 0, .int .i64 0, .int .i64 2, .int .i64 0, .int .i64 0, .int .i64 1, .int .i64 1, .int .i64 0, .int .i64 (-1), .int .i64 2, .int .i64 (-1), .int .i64 0, .int .i64 0] 35)) (some ⟨w3.heap.size, 0, none⟩) 9 knL := lit_row (heap_alloc_new w3 _) rfl rfl
  generalize w3.alloc (.cells #[.int .i64 0, .int .i64 0, .int .i64 0, .int .i64 0, .int .i64 1, .int .i64 3, .int .i64 0, .int .i64 1, .int .i64 1, .int .i64 0, .int .i64 0, .int .i64 0, .int .i64 1, .int .i64 4, .int .i64 0, .int .i64 0, .int .i64 4, .int .i64 1, .int .i64 0, .int .i64 0, .int .i64 (-1), .int .i64 1, .int .i64 0, .int .i64 0, .int .i64 0, .int .i64 2, .int .i64 0, .int .i64 0, .int .i64 1, .int .i64 1, .int .i64 0, .int .i64 (-1), .int .i64 2, .int .i64 (-1), .int .i64 0, .int .i64 0] 35) = w4 at *
  have H := hideIt (And.intro (After.at hA4 B.out.1) (And.intro (B.out.2.trans hA4) hB4))
  clear hA4 hB4 B
  generalize w3.heap.size = g3 at *
  go_loopw [42] (fun i wr => ∃ j : Nat, j ≤ 9 ∧ i = .int .i64 j ∧ After w4 wr) (fun i _ => 9 - (intOf i).toNat)
  case atStart => exact ⟨0, by omega, rfl, After.rfl⟩
  case round =>
    obtain ⟨j, hj, rfl, af⟩ := hrel
    by_cases hjn : j < 9
    · have i1 : (j : Int) < 9 := by omega
      obtain ⟨b, off, x, eb, hlt, hx, c0, c1, c2, c3⟩ := asrow_at (H.out.2.2.after af) hjn
      cases eb
      have hsg := knL_none x (List.mem_of_getElem? hx)
      have S := hideIt (fun V => signal_any V x)
      rw [hsg] at S
      have AF := hideIt af
      simp only [Nat.zero_add] at c0 c1 c2 c3
      clear hx hsg af
      go_upto_region 6 with fail
      obtain ⟨w5, h5⟩ : ∃ w5, w5 = wr.alloc (.cells #[.int .i64 x.ph, .int .i64 x.pr, .int .i64 x.si, .int .i64 x.pa] 35) := ⟨_, rfl⟩
      rw [← h5]
      have a5 : After wr w5 := by rw [h5]; exact After.rfl.alloc _
      have b5 : w5.heap[wr.heap.size]? = some (.cells #[.int .i64 x.ph, .int .i64 x.pr, .int .i64 x.si, .int .i64 x.pa] 35 (0, 0)) := by rw [h5]; exact heap_alloc_new wr _
      have z5 := After.at (AF.out.trans a5) H.out.1
      have HC : ∀ V, After w5 V → (Instr.loadAt 35 (.pointer (some ⟨wr.heap.size, 0, none⟩))).run Try.prog V = .ok x.v V ∧ (Instr.loadAt 25 (.pointer (some ⟨w.heap.size, 0, none⟩))).run Try.prog V = .ok Sg.zero.v V := by
        intro V av
        have sb := After.at av b5
        have zb := After.at av z5
        exact ⟨loadAs (blk_cell (i := 0) sb rfl) (blk_cell (i := 1) sb rfl) (blk_cell (i := 2) sb rfl) (blk_cell (i := 3) sb rfl), loadSg (x := Sg.zero) (blk_cell (i := 0) zb rfl) (blk_cell (i := 1) zb rfl) (blk_cell (i := 2) zb rfl)⟩
      have HC' := hideIt HC
      have A5 := hideIt a5
      clear h5 a5 b5 z5 HC c0 c1 c2 c3
      refine region_phase (by kernel_rfl) (fun i => ([x.v, Sg.zero.v, Sg.zero.v]).getD i undef) 46 3 (fun _ V => After w5 V) _ rfl rfl (Nat.le_of_ble_eq_true rfl) (But.drew After.rfl) ?_ rfl rfl 12 rfl ?_
      · exact ⟨ph_load rfl rfl rfl rfl rfl (fun _ V h => (HC'.out V h).1) (fun _ _ h => h),
          ph_call (vs := [x.v]) rfl rfl rfl rfl (enterP Try.func11 (by kernel_rfl) (by kernel_rfl)) rfl (fun _ V _ _ h => (S.out V).mono (fun e w' q => ⟨q.1, h.trans q.2⟩)),
          ph_load rfl rfl rfl rfl rfl (fun _ V h => (HC'.out V h).2) (fun _ _ h => h),
          trivial⟩
      intro w6 Ls hL h6 K' hK'
      simp only [puts, List.getD_cons_succ, List.getD_cons_zero, List.setIfInBounds_toArray, List.set_cons_succ, List.set_cons_zero, Nat.reduceAdd]
      refine pw_val (r := do eqGuard .neq 25 (.tmp 47) (.tmp 48) Sg.zero.v Sg.zero.v; binOp .neq 25 Sg.zero.v Sg.zero.v) rfl (neSg _ _ Sg.zero w6) (hK' _ _ ?_)
      have E6 := hideIt (AF.out.trans (A5.out.trans h6))
      clear hL hK' h6 S HC' AF A5
      go_wp2
      exact ⟨⟨j + 1, by omega, by simp, E6.out⟩, by simp [intOf]; omega⟩
    · obtain rfl : j = 9 := by omega
      have A := hideIt (H.out.2.1.trans af)
      clear hjn hj af H
      have kZ : Vec.zero.Ok := Vec.Ok.zero
      have ON := fun V x y z x' y' z' (h : 26 < y ∨ 4 < y') => of_no V x x' y z y' z' false h
      generalize hzz : Vec.zero = ZZ at ON
      have kz : ZZ.Ok := by rw [← hzz]; exact kZ
      have N := hideIt (And.intro ON kz)
      clear ON kZ kz hzz
      go_wp2_with (first | (show wpList _ _ _ (_ :: _) _ _; refine wl_make rfl rfl (make27 _) ?_; intro w10 m10 a10; have A10 := hideIt (A.out.trans a10); clear m10 a10) | fail)
      refine (N.out.1 w10 _ 27 27 none 0 0 (by omega)).mono ?_
      rintro e w11 ⟨rfl, a11⟩
      have A11 := hideIt (A10.out.trans a11)
      clear a11 A10 A
      go_upto_region 10 with (first | (show wpList _ _ _ (_ :: _) _ _; refine wl_avec rfl rfl ?_; intro wa va ba sa) | (show wpList _ _ _ (_ :: _) _ _; refine wl_vec _ _ rfl rfl rfl (v := ZZ) rfl Vec.Ok.zero N.out.2 va ?_; intro w12 vs bs ss) | fail)
      have hz11 : w.heap.size ≤ w11.heap.size := A11.out.size
      have A12 := hideIt (show After w w12 from But.then (A11.out.trans ba) bs (fun i hi (t : i = w11.heap.size) => by omega))
      clear va ba sa vs bs ss A11 hz11
      generalize w11.heap.size = g5
      go_wp2_with (first | (show wpList _ _ _ (_ :: _) _ _; refine wl_make rfl rfl (makeB5 _) ?_; intro w13 m13 a13; have A13 := hideIt (A12.out.trans a13); clear m13 a13) | fail)
      refine (N.out.1 w13 none 0 0 _ 5 5 (by omega)).mono ?_
      rintro e w14 ⟨rfl, a14⟩
      have A14 := hideIt (A13.out.trans a14)
      clear a14 A13 A12
      go_upto_region 11 with (first | (show wpList _ _ _ (_ :: _) _ _; refine wl_avec rfl rfl ?_; intro wa va ba sa) | (show wpList _ _ _ (_ :: _) _ _; refine wl_vec _ _ rfl rfl rfl (v := ZZ) rfl Vec.Ok.zero N.out.2 va ?_; intro w15 vs bs ss) | fail)
      have hz14 : w.heap.size ≤ w14.heap.size := A14.out.size
      have A15 := hideIt (show After w w15 from But.then (A14.out.trans ba) bs (fun i hi (t : i = w14.heap.size) => by omega))
      clear va ba sa vs bs ss A14 hz14
      generalize w14.heap.size = g7
      generalize ZZ.v = ZV
      generalize Value.tuple #[ZV, Value.int IntKind.i64 2] = ZT
      go_upto_region 12 with (first | (show wpList _ _ _ (_ :: _) _ _; refine wl_make rfl rfl (make26 _) ?_; intro w16 m16 a16) | fail)
      have r16 : GRow asE w16 (some ⟨w15.heap.size, 0, none⟩) 26 (List.replicate 26 As.zero) := lit_row m16 rfl rfl
      have hz15 : w.heap.size ≤ w15.heap.size := A15.out.size
      obtain ⟨b', o', x', eb, _, hx', d0, d1, d2, d3⟩ := asrow_at r16 (i := 25) (by omega)
      cases eb
      have y0 := blk_soft m16 100
      have y1 := blk_soft m16 101
      have y2 := blk_soft m16 102
      have y3 := blk_soft m16 103
      simp only [Nat.zero_add, Nat.reduceMul, Nat.reduceAdd] at d0 d1 d2 d3
      have A16 := hideIt (And.intro (A15.out.trans a16) r16)
      clear r16 a16 m16 A15 hx'
      generalize w15.heap.size = g9 at *
      go_upto_region 13 with fail
      generalize hw17 : (((w16.setCell ⟨g9, 100, none⟩ (.int .i64 3)).setCell ⟨g9, 101, none⟩ (.int .i64 2)).setCell ⟨g9, 102, none⟩ (.int .i64 0)).setCell ⟨g9, 103, none⟩ (.int .i64 0) = w17
      have r17 : GRow asE w17 (some ⟨g9, 0, none⟩) 26 knA := by
        rw [← hw17]
        exact A16.out.2.put4 (i := 25) (by omega) ⟨3, 2, 0, 0⟩
      have b17 : But (One g9) w16 w17 := by rw [← hw17]; exact (((but_one _ _ _ _).trans (but_one _ _ _ _)).trans (but_one _ _ _ _)).trans (but_one _ _ _ _)
      have a17 : After w w17 := But.then A16.out.1 b17 (fun i hi (t : i = g9) => by omega)
      have H17 := hideIt (And.intro r17 a17)
      clear hw17 r17 b17 a17 A16 d0 d1 d2 d3 y0 y1 y2 y3
      go_wp2_with (first | (show wpList _ _ _ (_ :: _) _ _; refine wl_make rfl rfl (makeB4 _) ?_; intro w18 m18 a18; have H18 := hideIt (And.intro (show GRow blE w18 (some ⟨w17.heap.size, 0, none⟩) 4 (List.replicate 4 false) from lit_row m18 rfl rfl) a18); clear m18 a18) | fail)
      refine (of_yes w18 (some ⟨g9, 0, none⟩) (some ⟨w17.heap.size, 0, none⟩) 26 26 4 4 true knA (List.replicate 4 false) (H17.out.1.after H18.out.2) H18.out.1 (by omega) (by omega)).mono ?_
      rintro e w19 ⟨rfl, a19⟩
      rw [show ofV knA true (List.replicate 4 false) = knV from rfl]
      have k1 : knV.Ok := ofV_ok _ _ _
      have k2 : knE.Ok := ofV_ok _ _ _
      have f1 := knV_sg
      have f2 := knV_top
      have f3 := knV_tone
      have f4 : knV.fl = true := rfl
      have f5 : knV.lk = [false, false, false, false] := rfl
      have G1 := fun V => graver_any V knV knE k1 k2
      have G2 := fun V => graver_any V knE knV k2 k1
      have G3 := fun V => graver_any V knE knE k2 k2
      rw [kn_ve] at G1
      rw [kn_ev] at G2
      rw [grv_refl] at G3
      have OE := fun V => of_yes V none none 0 0 0 0 false [] [] (GRow.nil asE V none) (GRow.nil blE V none) (by omega) (by omega)
      have BE := buildE
      rw [show ofV [] false [] = knE from rfl] at OE
      generalize knV = V at *
      generalize knE = E at *
      have F := hideIt (And.intro k1 (And.intro k2 (And.intro f1 (And.intro f2 (And.intro f3 (And.intro f4 f5))))))
      have G := hideIt (And.intro G1 (And.intro G2 (And.intro G3 (And.intro OE BE))))
      have A19 := hideIt (H17.out.2.trans (H18.out.2.trans a19))
      clear k1 k2 f1 f2 f3 f4 f5 G1 G2 G3 OE BE H17 H18 a19
      go_upto_region 14 with (first | (show wpList _ _ _ (_ :: _) _ _; refine wl_avec rfl rfl ?_; intro wa va ba sa) | (show wpList _ _ _ (_ :: _) _ _; refine wl_vec _ _ rfl rfl rfl (v := V) rfl Vec.Ok.zero F.out.1 va ?_; intro w20 v20 bs ss) | fail)
      have hz19 : w.heap.size ≤ w19.heap.size := A19.out.size
      have A20 := hideIt (And.intro v20 (show After w w20 from But.then (A19.out.trans ba) bs (fun i hi (t : i = w19.heap.size) => by omega)))
      clear va ba sa v20 bs ss A19 hz19
      generalize w19.heap.size = g10 at *
      go_wp2_with fail
      refine (G.out.2.2.2.1 w20).mono ?_
      rintro e w21 ⟨rfl, a21⟩
      have A21 := hideIt (And.intro (A20.out.1.after a21) (A20.out.2.trans a21))
      clear a21 A20
      go_wp2_with (first | (show wpList _ _ _ (_ :: _) _ _; refine wl_avec rfl rfl ?_; intro wa va ba sa) | (show wpList _ _ _ (_ :: _) _ _; refine wl_vec _ _ rfl rfl rfl (v := E) rfl Vec.Ok.zero F.out.2.1 va ?_; intro w22 v22 bs ss) | fail)
      have hz21 : w.heap.size ≤ w21.heap.size := A21.out.2.size
      have hne : g10 ≠ w21.heap.size := by have := blk_lt A21.out.1; omega
      have A22 := hideIt (And.intro (show VecAt w22 g10 V from (bs.block _ (blk_lt (A21.out.1.after ba)) hne).trans (A21.out.1.after ba)) (And.intro v22 (show After w w22 from But.then (A21.out.2.trans ba) bs (fun i hi (t : i = w21.heap.size) => by omega))))
      clear va ba sa v22 bs ss A21 hz21
      generalize w21.heap.size = g12 at *
      refine (works_any w22).mono ?_
      rintro e w23 ⟨rfl, a23⟩
      have A23 := hideIt (And.intro (A22.out.1.after a23) (And.intro (A22.out.2.1.after a23) (A22.out.2.2.trans a23)))
      clear a23 A22
      obtain ⟨m0, m1, m2⟩ := A23.out.1.cell_mid F.out.1
      rw [F.out.2.2.2.1] at m0
      rw [F.out.2.2.2.2.1] at m1
      rw [F.out.2.2.2.2.2.1] at m2
      obtain ⟨-, x1, -⟩ := A23.out.1.cell_sg F.out.1 F.out.2.2.1
      have l0 := A23.out.1.cell_lk F.out.1 (i := 0) (by decide)
      have l1 := A23.out.1.cell_lk F.out.1 (i := 1) (by decide)
      have l2 := A23.out.1.cell_lk F.out.1 (i := 2) (by decide)
      have l3 := A23.out.1.cell_lk F.out.1 (i := 3) (by decide)
      rw [F.out.2.2.2.2.2.2] at l0 l1 l2 l3
      simp only [List.getD_cons_zero, List.getD_cons_succ, Nat.reduceMul, Nat.reduceAdd, Nat.add_zero] at x1 l0 l1 l2 l3
      have eq27 : ∀ V, (Op.equalIn 10000 27 (.agg #[.bool false, .bool false, .bool false, .bool false]) (.agg #[.bool false, .bool false, .bool false, .bool false])).run Try.prog V = .ok true V := eqLks 9998 [false, false, false, false] rfl
      go_wp2_with (first | (show wpList _ _ _ (_ :: _) _ _; first | (refine wl_gvec (.tmp 12) rfl rfl rfl F.out.2.1 A23.out.2.1 ?_) | (refine wl_gvec (.tmp 10) rfl rfl rfl F.out.1 A23.out.1 ?_) | (refine wl_gbuild1 (T := 29) (i := 4) (x := .tmp 125) (u := .agg #[.bool true, .bool true, .bool true, .bool true]) (v := E.v) rfl rfl rfl (G.out.2.2.2.2 _) ?_) | (refine wl_gbin (t := 29) (p := E.v) (q := E.v) rfl rfl rfl rfl (eqVecs _ _ F.out.2.1 _) ?_)) | fail)
      refine (G.out.1 w23).mono ?_
      rintro e w24 ⟨rfl, a24⟩
      have A24 := hideIt (And.intro (A23.out.1.after a24) (And.intro (A23.out.2.1.after a24) (A23.out.2.2.trans a24)))
      clear a24 A23 m0 m1 m2 x1 l0 l1 l2 l3 eq27
      go_wp2_with (first | (show wpList _ _ _ (_ :: _) _ _; first | (refine wl_gvec (.tmp 12) rfl rfl rfl F.out.2.1 A24.out.2.1 ?_) | (refine wl_gvec (.tmp 10) rfl rfl rfl F.out.1 A24.out.1 ?_)) | fail)
      refine (G.out.2.1 w24).mono ?_
      rintro e w25 ⟨rfl, a25⟩
      have A25 := hideIt (And.intro (A24.out.1.after a25) (And.intro (A24.out.2.1.after a25) (A24.out.2.2.trans a25)))
      clear a25 A24
      go_wp2_with (first | (show wpList _ _ _ (_ :: _) _ _; refine wl_gvec (.tmp 12) rfl rfl rfl F.out.2.1 A25.out.2.1 ?_) | fail)
      refine (G.out.2.2.1 w25).mono ?_
      rintro e w26 ⟨rfl, a26⟩
      have A26 := hideIt (A25.out.2.2.trans a26)
      clear a26 A25
      go_wp2
      go_ret
      exact ⟨rfl, A26.out⟩
end Go.Proofs.Ytaiagijepnaalaa
