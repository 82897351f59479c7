/-
  Package panel: what is seen of a vector; one view laid over another one.
-/
import Derived.Test.YtaiagijepnaalaaPaB
import Derived.Deep.Cut
namespace Go.Proofs.Ytaiagijepnaalaa
open Go.RowKit
set_option maxRecDepth 8000
theorem Try.zeroView (V : World) : (zeroValue 50).run Try.prog V = .ok (.agg (stE.flat (List.replicate 26 St.zero)).toArray) V := by kernel_rfl
theorem view_size {l : List St} (h : l.length = 26) : (stE.flat l).length = 52 := by rw [stE.flat_length, h]; rfl
theorem sgs_size {l : List Sg} (h : l.length = 26) : (sgE.flat l).length = 78 := by rw [sgE.flat_length, h]; rfl
theorem set_same {α : Type} {l : List α} {i : Nat} {x : α} (h : l[i]? = some x) : l.set i x = l := by
  apply List.ext_getElem?
  intro j
  rw [List.getElem?_set]
  by_cases e : i = j
  · subst e
    rw [if_pos rfl, if_pos (List.getElem?_eq_some_iff.1 h).1, h]
  · rw [if_neg e]
theorem seen_any (w : World) (v : Vec) (hv : v.Ok) : Calls Try.prog 20 #[v.v] w fun e w' => e = .returned (viewV (see v)) ∧ After w w' := by
  unfold Vec.v
  obtain ⟨R, hR⟩ : ∃ R, see v = R := ⟨_, rfl⟩
  have hRl : R.length = 26 := by rw [← hR]; exact seeAt_length _ _
  rw [hR]
  have HR := hideIt (And.intro hR hRl)
  clear hR hRl
  have HC := hideIt (show v.cs.toArray = v.cs.toArray from rfl)
  generalize hc : v.cs.toArray = C at *
  have HV := hideIt hv
  clear hv
  go_enter Try.func20, Try.ntmps20
  go_upto_region 1 with (first | (refine wl_alloc 50 _ Try.zeroView rfl rfl ?_; intro w1 hb1 a1 s1) | (refine wl_box 29 _ C rfl rfl rfl ?_; intro w0 hb0 a0 s0) | fail)
  rw [s0]
  go_upto_region 2 with (first | (refine wl_alloc 50 _ Try.zeroView rfl rfl ?_; intro w2 hb2 a2 s2) | fail)
  rw [s1, s0]
  have h0 : VecAt w2 w.heap.size v := by unfold VecAt; rw [hc]; exact (After.at (After.trans a1 a2) hb0)
  have h1 : ViewAt w2 (w.heap.size + 1) (seeAt v.sg 0) := by rw [← s0]; exact After.at a2 hb1
  have h2 : ViewAt w2 (w.heap.size + 1 + 1) (seeAt v.sg 0) := by rw [← s0, ← s1]; exact hb2
  have H := hideIt (And.intro h0 (And.intro h1 (And.intro h2 (After.trans a0 (After.trans a1 a2)))))
  have hsz : w2.heap.size = w.heap.size + 1 + 1 + 1 := by omega
  have HZ := hideIt hsz
  clear hb0 a0 s0 hb1 a1 s1 hb2 a2 s2 h0 h1 h2 hsz
  go_wp2_with (first | (refine wl_load 26 _ _ rfl rfl rfl (sgE.flat v.sg) H.out.1.range_sg Try.underlying26 rfl (by rw [sgs_size HV.out.1]; exact Try.infoSgs) ?_) | fail)
  have HX := hideIt (fun j (h : j < 26) (V : World) => index_sg HV.out.1 h V)
  unfold sgsV at HX
  generalize hg : (sgE.flat v.sg).toArray = G at *
  clear hg
  go_loopw [8] (fun i wr => ∃ j : Nat, j ≤ 26 ∧ i = .int .i64 j ∧ ViewAt wr (w.heap.size + 1 + 1) (seeAt v.sg j) ∧ ViewAt wr (w.heap.size + 1) (seeAt v.sg 0) ∧ After w wr) (fun i _ => 26 - (intOf i).toNat)
  case atStart => exact ⟨0, by omega, rfl, H.out.2.2.1, H.out.2.1, H.out.2.2.2⟩
  case round =>
    obtain ⟨j, hj, rfl, hv2, hv1, af⟩ := hrel
    by_cases hjn : j < 26
    · have i1 : (j : Int) < 26 := by omega
      have hix := HX.out j hjn
      have hn : seeAt v.sg (j + 1) = (seeAt v.sg j).set j (stOf (v.sg.getD j Sg.zero)) := rfl
      generalize v.sg.getD j Sg.zero = x at *
      have hx := get_some (seeAt v.sg j) St.zero (i := j) (by rw [seeAt_length]; exact hjn)
      obtain ⟨c0, c1⟩ := hv2.cell hx
      have y0 := blk_soft hv2 (j * 2)
      have y1 := blk_soft hv2 (j * 2 + 1)
      have h3 := fun V (a : After wr V) => (hv2.after a).st (i := j) (by rw [seeAt_length]; exact hjn)
      have L := hideIt (And.intro hv2 (And.intro hv1 (And.intro af (And.intro hn h3))))
      have hl1 := blk_lt hv2
      clear hv2 hv1 af hn h3 hx
      cases hs : x.sh
      · have HS := hideIt hs
        go_wp2_with fail
        have e : seeAt v.sg (j + 1) = seeAt v.sg j := by
          rw [L.out.2.2.2.1]
          refine set_same ?_
          rw [seeAt_at v.sg j hj j hjn, if_neg (by omega)]
          unfold stOf
          rw [HS.out, if_neg (by decide)]
        refine ⟨⟨j + 1, by omega, by simp, ?_, L.out.2.1.after (After.rfl.alloc _), L.out.2.2.1.alloc _⟩, by simp [intOf]; omega⟩
        rw [e]
        exact L.out.1.after (After.rfl.alloc _)
      · have HS := hideIt hs
        go_wp2_with fail
        have e : stOf x = ⟨true, x.pr⟩ := by unfold stOf; rw [HS.out, if_pos rfl]
        refine ⟨⟨j + 1, by omega, by simp, ?_, ?_, ?_⟩, by simp [intOf]; omega⟩
        · rw [L.out.2.2.2.1, e]
          exact (L.out.2.2.2.2 wr After.rfl ⟨true, x.pr⟩).after (After.rfl.alloc _)
        · have hb : But (One (w.heap.size + 1 + 1)) wr ((wr.setCell ⟨w.heap.size + 1 + 1, j * 2, none⟩ (.bool true)).setCell ⟨w.heap.size + 1 + 1, j * 2 + 1, none⟩ (.int .i64 x.pr)) := (but_one _ _ _ _).trans (but_one _ _ _ _)
          have : ViewAt ((wr.setCell ⟨w.heap.size + 1 + 1, j * 2, none⟩ (.bool true)).setCell ⟨w.heap.size + 1 + 1, j * 2 + 1, none⟩ (.int .i64 x.pr)) (w.heap.size + 1) (seeAt v.sg 0) := (hb.block _ (blk_lt L.out.2.1) (fun (t : w.heap.size + 1 = w.heap.size + 1 + 1) => by omega)).trans L.out.2.1
          exact this.after (After.rfl.alloc _)
        · exact ((L.out.2.2.1.set ⟨w.heap.size + 1 + 1, j * 2, none⟩ (show w.heap.size ≤ w.heap.size + 1 + 1 by omega) _).set ⟨w.heap.size + 1 + 1, j * 2 + 1, none⟩ (show w.heap.size ≤ w.heap.size + 1 + 1 by omega) _).alloc _
    · obtain rfl : j = 26 := by omega
      rw [show seeAt v.sg 26 = R from HR.out.1] at hv2
      have hr : wr.rangeAt (w.heap.size + 1 + 1) 0 (stE.flat R) := blk_range hv2
      have L := hideIt (And.intro hv2 (And.intro hv1 (And.intro af hr)))
      clear hjn hj hv2 hv1 af hr HX
      have f52 : (Try.prog.info? 50).map (·.size) = some (stE.flat R).length := by rw [view_size HR.out.2]; exact Try.infoView
      have f53 : (Try.prog.info? 50).map (·.size) = some (stE.flat R).toArray.size := by rw [List.size_toArray]; exact f52
      have f54 : (stE.flat (seeAt v.sg 0)).toArray.size = (stE.flat R).toArray.size := by rw [List.size_toArray, List.size_toArray, view_size (seeAt_length _ _), view_size HR.out.2]
      have F := hideIt (And.intro f52 (And.intro f53 f54))
      clear f52 f53 f54
      go_wp2_with (first | (refine wl_load 50 _ _ rfl rfl rfl (stE.flat R) L.out.2.2.2 Try.underlying50 rfl F.out.1 ?_) | (refine wl_store 50 50 _ _ rfl rfl rfl (stE.flat R).toArray _ rfl L.out.2.1 F.out.2.1 F.out.2.2 (all_oneCell_toArray (stE.flat_one _)) ?_; intro w3 hb3 b3 s3) | fail)
      refine ret_cell Try.results20 rfl hb3 Try.underlying50 rfl F.out.2.1 rfl ⟨rfl, ?_⟩
      exact But.then L.out.2.2.1 b3 (fun i hi (t : i = w.heap.size + 1) => by omega)
end Go.Proofs.Ytaiagijepnaalaa
