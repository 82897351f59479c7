/-
  Package panel: one view laid over another one; whether two views are the same; Graver, and the document's.
-/
import Derived.Test.YtaiagijepnaalaaPaO
import Derived.ChangeKeysEq
namespace Go.Proofs.Ytaiagijepnaalaa
open Go.RowKit
set_option maxRecDepth 8000
theorem with_any (w : World) (l m : List St) (hl : l.length = 26) (hm : m.length = 26) : Calls Try.prog 21 #[viewV l, viewV m] w fun e w' => e = .returned (viewV (wiAt l m 26)) ∧ After w w' := by
  unfold viewV
  obtain ⟨R, hR⟩ : ∃ R, wiAt l m 26 = R := ⟨_, rfl⟩
  have hRl : R.length = 26 := by rw [← hR, wiAt_length]; exact hl
  rw [hR]
  have HR := hideIt (And.intro hR hRl)
  clear hR hRl
  have HL := hideIt (And.intro hl hm)
  clear hl hm
  generalize h1 : (stE.flat l).toArray = C1 at *
  generalize h2 : (stE.flat m).toArray = C2 at *
  go_enter Try.func21, Try.ntmps21
  go_upto_region 1 with (first | (refine wl_alloc 50 _ Try.zeroView rfl rfl ?_; intro w2 hb2 a2 s2) | (refine wl_box 50 (.tmp 0) C1 rfl rfl rfl ?_; intro w0 hb0 a0 s0) | (refine wl_box 50 (.tmp 1) C2 rfl rfl rfl ?_; intro w1 hb1 a1 s1) | fail)
  rw [s1, s0]
  have v0 : ViewAt w2 w.heap.size (wiAt l m 0) := by unfold ViewAt; rw [show wiAt l m 0 = l from rfl, h1]; exact After.at (After.trans a1 a2) hb0
  have v1 : ViewAt w2 (w.heap.size + 1) m := by unfold ViewAt; rw [h2, ← s0]; exact After.at a2 hb1
  have v2 : ViewAt w2 (w.heap.size + 1 + 1) (List.replicate 26 St.zero) := by rw [← s0, ← s1]; exact hb2
  have hr := blk_range v1
  have H := hideIt (And.intro v0 (And.intro v2 (And.intro (After.trans a0 (After.trans a1 a2)) hr)))
  clear hb0 a0 s0 hb1 a1 s1 hb2 a2 s2 v0 v1 v2 hr h1
  go_wp2_with (first | (refine wl_load 48 _ _ rfl rfl rfl (stE.flat m) H.out.2.2.2 Try.underlying48 rfl (by rw [view_size HL.out.2]; exact Try.infoSts) ?_) | fail)
  have HX := hideIt (fun j (h : j < 26) (V : World) => index_st HL.out.2 h V)
  unfold viewV at HX
  rw [h2] at HX
  clear h2
  go_loopw [9] (fun i wr => ∃ j : Nat, j ≤ 26 ∧ i = .int .i64 j ∧ ViewAt wr w.heap.size (wiAt l m j) ∧ ViewAt wr (w.heap.size + 1 + 1) (List.replicate 26 St.zero) ∧ After w wr) (fun i _ => 26 - (intOf i).toNat)
  case atStart => exact ⟨0, by omega, rfl, H.out.1, H.out.2.1, H.out.2.2.1⟩
  case round =>
    obtain ⟨j, hj, rfl, hv0, hv2, af⟩ := hrel
    clear H
    by_cases hjn : j < 26
    · have i1 : (j : Int) < 26 := by omega
      have hix := HX.out j hjn
      have hn : wiAt l m (j + 1) = (wiAt l m j).set j (wor (l.getD j St.zero) (m.getD j St.zero)) := rfl
      have hx := wiAt_next l m (j := j) (by rw [HL.out.1]; exact hjn)
      generalize l.getD j St.zero = x at *
      generalize m.getD j St.zero = y at *
      have HW := hideIt (fun V => worse_any V x y)
      have L := hideIt (And.intro hv0 (And.intro hv2 (And.intro af (And.intro hn hx))))
      clear hv0 hv2 af hn hx
      go_upto_region 4 with fail
      obtain ⟨w3, h3⟩ : ∃ w3, w3 = wr.alloc (.cells #[.bool y.sh, .int .i64 y.pr] 47) := ⟨_, rfl⟩
      rw [← h3]
      have a3 : After wr w3 := by rw [h3]; exact After.rfl.alloc _
      have hy : w3.heap[wr.heap.size]? = some (.cells #[.bool y.sh, .int .i64 y.pr] 47 (0, 0)) := by rw [h3]; exact heap_alloc_new wr _
      have HC : ∀ V, After w3 V → V.cell? ⟨w.heap.size, 0 + j * 2, none⟩ = some (.bool x.sh) ∧ V.cell? ⟨w.heap.size, 0 + j * 2 + 1, none⟩ = some (.int .i64 x.pr) ∧ V.cell? ⟨wr.heap.size, 0, none⟩ = some (.bool y.sh) ∧ V.cell? ⟨wr.heap.size, 0 + 1, none⟩ = some (.int .i64 y.pr) := by
        intro V a
        have h4 := After.at a hy
        have h5 := (L.out.1.after (a3.trans a)).cell L.out.2.2.2.2
        rw [Nat.zero_add]
        exact ⟨h5.1, h5.2, blk_cell (i := 0) h4 rfl, blk_cell (i := 1) h4 rfl⟩
      clear h3
      refine region_phase (by kernel_rfl) (fun i => ([.int .i64 j, .int .i64 j, .pointer (some ⟨w.heap.size, 0, none⟩), .pointer (some ⟨w.heap.size, 0 + j * 2, none⟩), x.v, y.v, (wor x y).v, .pointer (some ⟨w.heap.size, 0, none⟩), .pointer (some ⟨w.heap.size, 0 + j * 2, none⟩)]).getD i undef) 13 9 (fun _ V => After w3 V) _ rfl rfl (Nat.le_of_ble_eq_true rfl) (But.drew After.rfl) ?_ rfl rfl 12 rfl ?_
      · exact ⟨ph_move rfl rfl rfl rfl rfl (fun _ _ h => h),
          ph_move rfl rfl rfl rfl rfl (fun _ _ h => h),
          ph_field rfl rfl rfl rfl rfl (fun w => fieldVw w _ _) (fun _ _ h => h),
          ph_index rfl rfl rfl rfl rfl rfl (fun V => indexSt V _ _ hjn) (fun _ _ h => h),
          ph_load rfl rfl rfl rfl rfl (fun _ V h => loadSt (HC V h).1 (HC V h).2.1) (fun _ _ h => h),
          ph_load rfl rfl rfl rfl rfl (fun _ V h => loadSt (HC V h).2.2.1 (HC V h).2.2.2) (fun _ _ h => h),
          ph_call (vs := [x.v, y.v]) rfl rfl rfl rfl (enterP Try.func22 (by kernel_rfl) (by kernel_rfl)) rfl (fun _ V _ _ h => (HW.out V).mono (fun e w' q => ⟨q.1, h.trans q.2⟩)),
          ph_field rfl rfl rfl rfl rfl (fun w => fieldVw w _ _) (fun _ _ h => h),
          ph_index rfl rfl rfl rfl rfl rfl (fun V => indexSt V _ _ hjn) (fun _ _ h => h),
          trivial⟩
      intro w4 Ls hL h K' hK'
      simp only [puts, List.getD_cons_succ, List.getD_cons_zero, List.setIfInBounds_toArray, List.set_cons_succ, List.set_cons_zero, Nat.reduceAdd]
      have h4 := L.out.1.after (a3.trans h)
      have b4 : But (One w.heap.size) w4 ((w4.setCell ⟨w.heap.size, 0 + j * 2, none⟩ (.bool (wor x y).sh)).setCell ⟨w.heap.size, 0 + j * 2 + 1, none⟩ (.int .i64 (wor x y).pr)) := (but_one _ _ _ _).trans (but_one _ _ _ _)
      have h5 := h4.st (i := j) (by rw [wiAt_length, HL.out.1]; exact hjn) (wor x y)
      rw [← L.out.2.2.2.1] at h5
      have h6 := L.out.2.1.after (a3.trans h)
      refine pw_store rfl rfl (p := .pointer (some ⟨w.heap.size, 0 + j * 2, none⟩)) (v := (wor x y).v) rfl rfl (storeSt (y := x) (HC w4 h).1 (HC w4 h).2.1 (blk_soft h4 _) (blk_soft h4 _)) (hK' _ _ ?_)
      rw [Nat.zero_add] at b4 ⊢
      generalize (w4.setCell ⟨w.heap.size, j * 2, none⟩ (.bool (wor x y).sh)).setCell ⟨w.heap.size, j * 2 + 1, none⟩ (.int .i64 (wor x y).pr) = w5 at *
      have h7 : ViewAt w5 (w.heap.size + 1 + 1) (List.replicate 26 St.zero) := (b4.block _ (blk_lt h6) (fun (t : w.heap.size + 1 + 1 = w.heap.size) => by omega)).trans h6
      have a5 : After w w5 := But.then (L.out.2.2.1.trans (a3.trans h)) b4 (fun i hi (t : i = w.heap.size) => by omega)
      have E := hideIt (And.intro h5 (And.intro h7 a5))
      clear hL hK' h4 b4 h5 h6 h7 a5 HC hy a3 h L HW hix
      go_wp2
      exact ⟨⟨j + 1, by omega, by simp, E.out.1, E.out.2.1, E.out.2.2⟩, by simp [intOf]; omega⟩
    · obtain rfl : j = 26 := by omega
      rw [show wiAt l m 26 = R from HR.out.1] at hv0
      have hr : wr.rangeAt w.heap.size 0 (stE.flat R) := blk_range hv0
      have L := hideIt (And.intro hv0 (And.intro hv2 (And.intro af hr)))
      clear hjn hj hv0 hv2 af hr HX
      have f52 : (Try.prog.info? 50).map (·.size) = some (stE.flat R).length := by rw [view_size HR.out.2]; exact Try.infoView
      have f53 : (Try.prog.info? 50).map (·.size) = some (stE.flat R).toArray.size := by rw [List.size_toArray]; exact f52
      have f54 : (stE.flat (List.replicate 26 St.zero)).toArray.size = (stE.flat R).toArray.size := by rw [List.size_toArray, List.size_toArray, view_size List.length_replicate, view_size HR.out.2]
      have F := hideIt (And.intro f52 (And.intro f53 f54))
      clear f52 f53 f54
      go_wp2_with (first | (refine wl_load 50 _ _ rfl rfl rfl (stE.flat R) L.out.2.2.2 Try.underlying50 rfl F.out.1 ?_) | (refine wl_store 50 50 _ _ rfl rfl rfl (stE.flat R).toArray _ rfl L.out.2.1 F.out.2.1 F.out.2.2 (all_oneCell_toArray (stE.flat_one _)) ?_; intro w3 hb3 b3 s3) | fail)
      refine ret_cell Try.results21 rfl hb3 Try.underlying50 rfl F.out.2.1 rfl ⟨rfl, ?_⟩
      exact But.then L.out.2.2.1 b3 (fun i hi (t : i = w.heap.size + 1 + 1) => by omega)
end Go.Proofs.Ytaiagijepnaalaa
