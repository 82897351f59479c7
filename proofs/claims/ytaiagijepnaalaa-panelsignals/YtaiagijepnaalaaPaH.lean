/-
  The document's answer: what is shown of alarms.
-/
import Derived.Test.YtaiagijepnaalaaPaG
namespace Go.Proofs.Ytaiagijepnaalaa
open Go.RowKit
set_option maxRecDepth 8000
theorem wl_move {ops : Array Oper} {rest : List Oper} {o : Oper} {a : Act} {w : World} {Q : Exit → Act → World → Prop} {x : Operand} {v : Value} (hgd : o.guard = none) (ho : o.op = .move x) (hx : a.eval x = v) (h : wpList Try.prog ops Q rest (a.put o.dst v) w) : wpList Try.prog ops Q (o :: rest) a w :=
  wl_val (s := pure v) (w' := w) hgd (by unfold execOp; simp [ho, hx]) (by simp) h
theorem buildRef (w : World) (l : List As) (fl : Bool) : (Instr.build 29 #[(3, .bool fl)]).run Try.prog w = .ok (vAt l fl (List.replicate 4 false) 0).v w := by
  have e : ({ Vec.zero with fl := fl } : Vec) = vAt l fl (List.replicate 4 false) 0 := rfl
  rw [← e]
  exact buildVec1 w fl
theorem refOf_no (w : World) (a a' : Option Addr) (n c m c' : Nat) (fl : Bool) (hn : 26 < n ∨ 4 < m) : Calls Try.prog 10 #[.slice a n c, .bool fl, .slice a' m c'] w fun e w' => e = .returned (.tuple #[Vec.zero.v, .int .i64 2]) ∧ After w w' := by
  rcases (show 26 < (n : Int) ∨ (¬ 26 < (n : Int) ∧ 4 < (m : Int)) by omega) with h1 | ⟨h1, h2⟩
  all_goals
    clear hn
    go_enter Try.func10, Try.ntmps10
    go_upto_region 1 with (first | (refine wl_avec rfl rfl ?_; intro w1 v1 a1 s1) | fail)
    have H := hideIt (And.intro v1 a1)
    clear a1 s1 v1
    generalize hz : Vec.zero = Z at *
    have hzo : Z.Ok := by rw [← hz]; exact Vec.Ok.zero
    have HZ := hideIt (And.intro hz hzo)
    have HB := hideIt (fun V => buildVec0 V)
    rw [hz] at HB
    clear hz hzo
    go_wp2_with (first | (refine wl_build0 rfl rfl (HB.out _) ?_) | (refine wl_vec _ _ rfl rfl rfl rfl HZ.out.2 HZ.out.2 H.out.1 ?_; intro w2 hb2 b2 s2) | fail)
    refine ret_vec Try.results10 rfl rfl HZ.out.2 hb2 rfl ⟨by rw [HZ.out.1]; rfl, ?_⟩
    exact But.then H.out.2 b2 (fun i hi (t : i = w.heap.size) => by omega)
set_option maxHeartbeats 200000 in
theorem refOf_yes (w : World) (a a' : Option Addr) (n c m c' : Nat) (fl : Bool) (l : List As) (bs : List Bool) (hl : GRow asE w a n l) (hb : GRow blE w a' m bs) (hn : n ≤ 26) (hm : m ≤ 4) :
    Calls Try.prog 10 #[.slice a n c, .bool fl, .slice a' m c'] w fun e w' => e = .returned (.tuple #[(ofV l fl bs).v, .int .i64 0]) ∧ After w w' := by
  have i0 : ¬ 26 < (n : Int) := by omega
  have i1 : ¬ 4 < (m : Int) := by omega
  have HL := hideIt (fun V (x : After w V) => hl.after x)
  have HB2 := hideIt (fun V (x : After w V) => hb.after x)
  have hbl := hb.1
  obtain ⟨R, hR⟩ : ∃ R, List.replicate 4 false = R := ⟨_, rfl⟩
  have hRl : R.length = 4 := by rw [← hR]; rfl
  have hV : ofV l fl bs = vAt l fl (lkAt bs R 4) n := by unfold ofV vAt lks; rw [hR, hl.1]
  rw [hV]
  have HR := hideIt hRl
  have HE := hideIt hR
  have HN := hideIt hn
  have HM := hideIt hbl
  clear hl hb hR hRl hV hn hm hbl
  go_enter Try.func10, Try.ntmps10
  go_upto_region 1 with (first | (refine wl_avec rfl rfl ?_; intro w2 v1 a1 s1) | fail)
  have H2 := hideIt (And.intro v1 a1)
  have l2 : w.heap.size < w2.heap.size := by omega
  clear a1 s1 v1
  have HB := hideIt (fun V => buildRef V l fl)
  rw [HE.out] at HB
  have HO := hideIt (fun j => vAt_ok l fl HR.out j)
  go_upto_region 3 with fail
  go_upto_region 4 with (first | (show wpList _ _ _ (_ :: _) _ _; refine wl_move rfl rfl rfl ?_; refine wl_build1 rfl rfl rfl (HB.out _) ?_; refine wl_avec rfl rfl ?_; intro w3 v3 a3 s3; refine wl_vec _ _ rfl rfl rfl (v := vAt l fl R 0) rfl Vec.Ok.zero (HO.out 0) v3 ?_; intro w4 v4 b4 s4) | fail)
  generalize (vAt l fl R 0).v = V0
  have g1 : w.heap.size < w2.heap.size := l2
  have z4 : VecAt w4 w.heap.size Vec.zero := (b4.block _ (by have := a3.size; omega) (fun (t : w.heap.size = w2.heap.size) => by omega)).trans (H2.out.1.after a3)
  have a4 : After w w4 := But.then (H2.out.2.trans a3) b4 (fun i hi (t : i = w2.heap.size) => by omega)
  have H := hideIt (And.intro v4 (And.intro z4 a4))
  generalize w2.heap.size = g at *
  clear v3 a3 s3 v4 b4 s4 l2 z4 a4 H2 HB
  go_wp2_with fail
  go_loopw [9] (fun i wr => ∃ j : Nat, j ≤ n ∧ i = .int .i64 j ∧ VecAt wr g (vAt l fl R j) ∧ VecAt wr w.heap.size Vec.zero ∧ After w wr) (fun i _ => n - (intOf i).toNat)
  case atStart => exact ⟨0, by omega, rfl, H.out.1, H.out.2.1, H.out.2.2⟩
  case round =>
    obtain ⟨j, hj, rfl, hg, hz, af⟩ := hrel
    clear H
    by_cases hjn : j < n
    · have i2 : (j : Int) < (n : Int) := by omega
      obtain ⟨b, off, x, rfl, hlt, hlx, c0, c1, c2, c3⟩ := asrow_at (HL.out wr af) hjn
      have hx : l.getD j As.zero = x := List.getD_some hlx
      have HS := hideIt (fun V => refSignal_any V x)
      have L := hideIt (And.intro hg (And.intro hz (And.intro af hx)))
      clear hg hz af hlx hx
      go_wp2_with fail
      refine (HS.out _).mono ?_
      rintro e w6 ⟨rfl, a6⟩
      have b6 : After wr w6 := a6
      clear c0 c1 c2 c3 HS a6
      generalize hy : sgOf x = y
      have hyl : sgOf (l.getD j As.zero) = y := by rw [L.out.2.2.2]; exact hy
      go_upto_region 8 with fail
      obtain ⟨w7, h7⟩ : ∃ w7, w7 = w6.alloc (.cells #[.bool y.sh, .bool y.so, .int .i64 y.pr] 25) := ⟨_, rfl⟩
      rw [← h7]
      have a7 : After w6 w7 := by rw [h7]; exact After.rfl.alloc _
      have hb7 : w7.heap[w6.heap.size]? = some (.cells #[.bool y.sh, .bool y.so, .int .i64 y.pr] 25 (0, 0)) := by rw [h7]; exact heap_alloc_new w6 _
      have l6 : g < w6.heap.size := blk_lt (L.out.1.after b6)
      have v7 := L.out.1.after (b6.trans a7)
      have z7 := L.out.2.1.after (b6.trans a7)
      have a07 := L.out.2.2.1.trans (b6.trans a7)
      have hj26 : j < 26 := by have := HN.out; omega
      have e1 := get_some (sgAt l j) Sg.zero (i := j) (by rw [sgAt_length]; exact hj26)
      obtain ⟨d0, d1, d2⟩ := v7.cell_sg (HO.out j) e1
      have p0 := blk_cell (i := 0) (v := .bool y.sh) hb7 rfl
      have p1 := blk_cell (i := 1) (v := .bool y.so) hb7 rfl
      have p2 := blk_cell (i := 2) (v := .int .i64 y.pr) hb7 rfl
      have y0 := blk_soft v7 (j * 3)
      have y1 := blk_soft v7 (j * 3 + 1)
      have y2 := blk_soft v7 (j * 3 + 2)
      have jb : (j : Int) < 26 := by omega
      have M := hideIt (And.intro v7 (And.intro z7 (And.intro a07 (And.intro hb7 (And.intro hyl l6)))))
      clear h7 a7 hb7 v7 z7 a07 e1 b6 hy hyl L l6
      generalize w6.heap.size = q at *
      go_upto_region 9 with fail
      generalize hw8 : ((w7.setCell ⟨g, j * 3, none⟩ (.bool y.sh)).setCell ⟨g, j * 3 + 1, none⟩ (.bool y.so)).setCell ⟨g, j * 3 + 2, none⟩ (.int .i64 y.pr) = w8
      have v8 : VecAt w8 g ⟨sgAt l (j + 1), topAt l j, toneAt l j, fl, R⟩ := by
        have := M.out.1.sg (HO.out j) hj26 y
        rw [hw8, ← M.out.2.2.2.2.1] at this
        exact this
      have b8 : But (One g) w7 w8 := by rw [← hw8]; exact ((but_one _ _ _ _).trans (but_one _ _ _ _)).trans (but_one _ _ _ _)
      have k8 : Vec.Ok ⟨sgAt l (j + 1), topAt l j, toneAt l j, fl, R⟩ := ⟨sgAt_length _ _, HR.out⟩
      have q8 := (b8.block _ (blk_lt M.out.2.2.2.1) (fun (t : q = g) => by have := M.out.2.2.2.2.2; omega)).trans M.out.2.2.2.1
      obtain ⟨t0, t1, -⟩ := v8.cell_mid k8
      have p0 := blk_cell (i := 0) (v := .bool y.sh) q8 rfl
      have p1 := blk_cell (i := 1) (v := .bool y.so) q8 rfl
      have p2 := blk_cell (i := 2) (v := .int .i64 y.pr) q8 rfl
      have y8 := blk_soft v8 78
      have N := hideIt (And.intro v8 (And.intro b8 q8))
      clear hw8 v8 b8 q8 d0 d1 d2 y0 y1 y2
      go_upto_region 10 with fail
      have ht : topAt l (j + 1) = if topAt l j < y.pr then y.pr else topAt l j := by
        show max (topAt l j) (sgOf (l.getD j As.zero)).pr = _
        rw [M.out.2.2.2.2.1]
        split <;> omega
      rw [← ht]
      generalize hw9 : w8.setCell ⟨g, 78, none⟩ (.int .i64 (topAt l (j + 1))) = w9
      have v9 : VecAt w9 g ⟨sgAt l (j + 1), topAt l (j + 1), toneAt l j, fl, R⟩ := by
        have := N.out.1.top k8 (topAt l (j + 1))
        rw [hw9] at this
        exact this
      have b9 : But (One g) w8 w9 := by rw [← hw9]; exact but_one _ _ _ _
      have k9 : Vec.Ok ⟨sgAt l (j + 1), topAt l (j + 1), toneAt l j, fl, R⟩ := ⟨sgAt_length _ _, HR.out⟩
      have q9 := (b9.block _ (blk_lt N.out.2.2) (fun (t : q = g) => by have := M.out.2.2.2.2.2; omega)).trans N.out.2.2
      obtain ⟨-, t1, -⟩ := v9.cell_mid k9
      have p1 := blk_cell (i := 1) (v := .bool y.so) q9 rfl
      have p2 := blk_cell (i := 2) (v := .int .i64 y.pr) q9 rfl
      have y9 := blk_soft v9 79
      have z9 : VecAt w9 w.heap.size Vec.zero := ((N.out.2.1.trans b9).block _ (blk_lt M.out.2.1) (fun (t : w.heap.size = g) => by omega)).trans M.out.2.1
      have a9 : After w w9 := But.then M.out.2.2.1 (N.out.2.1.trans b9) (fun i hi (t : i = g) => by omega)
      have E := hideIt (And.intro v9 (And.intro k9 (And.intro z9 a9)))
      clear hw9 v9 b9 k9 k8 q9 z9 a9 ht t0 p0 N
      have jw : IntKind.i64.wrap ((j : Int) + 1) = (j : Int) + 1 := IntWalk.i64_in _ (by omega)
      cases hs : y.so
      · have htn : toneAt l (j + 1) = toneAt l j := by
          show (if (sgOf (l.getD j As.zero)).so = true then _ else _) = _
          rw [M.out.2.2.2.2.1, hs, if_neg (by decide)]
        have HT := hideIt htn
        clear htn
        go_wp2
        exact ⟨⟨j + 1, by omega, by simp, by unfold vAt; rw [HT.out]; exact E.out.1, E.out.2.2.1, E.out.2.2.2⟩, by simp [intOf]; omega⟩
      · have htn : toneAt l (j + 1) = if toneAt l j < y.pr then y.pr else toneAt l j := by
          show (if (sgOf (l.getD j As.zero)).so = true then max (toneAt l j) (sgOf (l.getD j As.zero)).pr else _) = _
          rw [M.out.2.2.2.2.1, hs, if_pos rfl]
          split <;> omega
        have HT := hideIt htn
        clear htn
        go_wp2
        rw [← HT.out]
        refine ⟨⟨j + 1, by omega, by simp, E.out.1.tone E.out.2.1 (toneAt l (j + 1)), ?_, ?_⟩, by simp [intOf]; omega⟩
        · exact ((but_one w9 g 79 _).block _ (blk_lt E.out.2.2.1) (fun (t : w.heap.size = g) => by omega)).trans E.out.2.2.1
        · exact But.then E.out.2.2.2 (but_one w9 g 79 _) (fun i hi (t : i = g) => by omega)
    · obtain rfl : j = n := by omega
      have L := hideIt (And.intro hg (And.intro hz af))
      have i2 : ¬ (j : Int) < (j : Int) := by omega
      clear hjn hj hg hz af HL
      go_wp2_with fail
      go_loopw [11] (fun i wr => ∃ k : Nat, k ≤ 4 ∧ i = .int .i64 k ∧ VecAt wr g (vAt l fl (lkAt bs R k) j) ∧ VecAt wr w.heap.size Vec.zero ∧ After w wr) (fun i _ => 4 - (intOf i).toNat)
      case atStart => exact ⟨0, by omega, rfl, L.out.1, L.out.2.1, L.out.2.2⟩
      case round =>
        obtain ⟨k, hk, rfl, hg, hz, af⟩ := hrel
        clear L
        have hok : Vec.Ok (vAt l fl (lkAt bs R k) j) := vAt_ok l fl (by rw [lkAt_length]; exact HR.out) j
        by_cases hkn : k < 4
        · have i4 : (k : Int) < 4 := by omega
          have d0 := hg.cell_lk hok hkn
          have y0 := blk_soft hg (81 + k)
          have h3 := hg.lk hok k (bs.getD k true)
          have L := hideIt (And.intro hz (And.intro af h3))
          have lg := blk_lt hg
          clear hg hz h3
          by_cases hkl : k < m
          · have i5 : (k : Int) < (m : Int) := by omega
            obtain ⟨b, off, x, rfl, hlt, hbx, cb⟩ := blrow_at (HB2.out _ af) hkl
            have hx : bs.getD k true = x := List.getD_some hbx
            have HX := hideIt hx
            clear hx hbx af
            go_wp2
            rw [show (decide (m ≤ k) || x) = bs.getD k true by rw [HX.out, decide_eq_false (by omega)]; rfl]
            exact ⟨⟨k + 1, by omega, by simp, L.out.2.2, ((but_one wr g (81 + k) _).block _ (blk_lt L.out.1) (fun (t : w.heap.size = g) => by omega)).trans L.out.1, But.then L.out.2.1 (but_one wr g (81 + k) _) (fun i hi (t : i = g) => by omega)⟩, by simp [intOf]; omega⟩
          · have i5 : ¬ (k : Int) < (m : Int) := by omega
            have hx : bs.getD k true = true := by rw [List.getD_eq_getElem?_getD, List.getElem?_eq_none (by rw [HM.out]; omega)]; rfl
            have HX := hideIt hx
            clear hx af
            go_wp2
            rw [← HX.out]
            exact ⟨⟨k + 1, by omega, by simp, L.out.2.2, ((but_one wr g (81 + k) _).block _ (blk_lt L.out.1) (fun (t : w.heap.size = g) => by omega)).trans L.out.1, But.then L.out.2.1 (but_one wr g (81 + k) _) (fun i hi (t : i = g) => by omega)⟩, by simp [intOf]; omega⟩
        · obtain rfl : k = 4 := by omega
          have L := hideIt (And.intro hg (And.intro hz (And.intro af hok)))
          clear hkn hk hg hz af hok HB2
          go_wp2_with (first | (show wpList _ _ _ (_ :: _) _ _; refine wl_rvec _ rfl rfl rfl (v := vAt l fl (lkAt bs R 4) j) L.out.2.2.2 L.out.1 ?_) | (show wpList _ _ _ (_ :: _) _ _; refine wl_vec _ _ rfl rfl rfl (v := vAt l fl (lkAt bs R 4) j) rfl Vec.Ok.zero L.out.2.2.2 L.out.2.1 ?_; intro w4 v4 b4 s4) | fail)
          refine ret_vec Try.results10 rfl rfl L.out.2.2.2 v4 rfl ⟨rfl, ?_⟩
          exact But.then L.out.2.2.1 b4 (fun i hi (t : i = w.heap.size) => by omega)
end Go.Proofs.Ytaiagijepnaalaa
