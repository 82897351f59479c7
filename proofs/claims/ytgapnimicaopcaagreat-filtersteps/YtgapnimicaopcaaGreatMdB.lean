/-
  The median's middle: a copy of its array, sorted by the library.
-/
import Derived.Test.YtgapnimicaopcaaGreatMdA
import Derived.Test.YtgapnimicaopcaaGreatSrt
import Derived.Lib.SortBridge
import Derived.Deep.MidRow
import Derived.Deep.WholeRow
namespace Go.Proofs.YtgapnimicaopcaaGreat.L9
open Go.RowKit Go.Sort
set_option maxRecDepth 8000
theorem but_setCells (g : Nat) : ∀ (vs : List Value) (o : Nat) (w : World), But (One g) w (w.setCells g o vs)
  | [], _, _ => But.rfl
  | v :: r, o, w => (but_one w g o v).trans (but_setCells g r (o + 1) _)
theorem after_grow (w : World) (os : Array Obj) : After w (grow w os) :=
  ⟨rfl, rfl, rfl, by simp [grow], fun k hk _ => heap_grow_old w os hk⟩
/-- Numbers at the head of a block, sorted. -/
theorem sort_any {w : World} {q cap : Nat} {cs : Array Value} {T : TypeId} (h : w.heap[q]? = some (.cells cs T (0, 0))) (zs : List Int) (hz : ∀ i, i < zs.length → cs[i]? = some (.int .i64 (zs.getD i 0))) (hl : zs.length ≤ 1000) :
    Calls Tryz.prog 93 #[.slice (some ⟨q, 0, none⟩) zs.length cap] w fun e w' => e = .returned (.tuple #[]) ∧ But (One q) w w' ∧ ∀ j, j < zs.length → w'.cell? ⟨q, j, none⟩ = some (.int .i64 ((rise zs).getD j 0)) := by
  have hc : ∀ j, j < zs.length → w.cell? ⟨q, 0 + j, none⟩ = some (.int .i64 (zs.getD j 0)) := fun j hj => by rw [Nat.zero_add]; exact blk_cell h (hz j hj)
  have hH := Lib.holds_of_ints (n := zs.length) (Nat.le_refl _) hc (fun j _ => blk_soft h _)
  rw [List.take_length] at hH
  refine (Tryz.slices_Sort_int q 0 cap zs w hH (blk_lt h) (by omega)).mono ?_
  rintro e w' ⟨rfl, n, os, rfl⟩
  rw [Lib.sorted_world _ w q 0 n _ _ os hH (by simp)]
  refine ⟨rfl, ((But.rfl (w := w)).draws n |>.trans (but_setCells q _ _ _)).trans (after_grow _ _).but, fun j hj => ?_⟩
  have := Lib.cells_sorted_ints (W := w) (b := q) (off := 0) (q := n) (zs := zs) (ys := rise zs) (os := os) (Nat.le_refl _) (rise_length zs) hc j (by rw [List.length_append, rise_length]; omega)
  rw [Nat.zero_add] at this
  rw [show (zs.mergeSort fun x y => decide (x ≤ y)) = rise zs from rfl, this]
  congr 2
  rw [List.getD_eq_getElem?_getD, List.getD_eq_getElem?_getD, List.getElem?_append_left (by rw [rise_length]; exact hj)]
theorem Tryz.info15 : (Tryz.prog.info? 111).map (·.size) = some 15 := by kernel_rfl
set_option maxHeartbeats 1000000 in
theorem mdMiddle_any {w : World} {p n : Nat} {s : List Int} (x : Md w p n s) (hs : 0 < s.length) :
    Calls Tryz.prog 92 #[Ptr p] w fun e w' => e = .returned (.int .i64 (mid s)) ∧ After w w' := by
  have hle := x.le
  obtain ⟨Z, f, x⟩ := x
  have hzl : (i64s Z).length = 15 := by rw [i64s_length]; exact x.zl
  have hrg : w.rangeAt p 0 (i64s Z) := fun j v hv => by
    have hj : j < Z.length := by
      have := (List.getElem?_eq_some_iff.1 hv).1
      rwa [i64s_length] at this
    rw [Nat.zero_add]
    refine blk_cell x.at0 ?_
    rw [mdC_num hj, ← hv]
    simp [i64s, hj]
  have c16 := blk_cell x.at0 (mdC_16 x.zl)
  have hlp := blk_lt x.at0
  have hi15 : (Tryz.prog.info? 111).map (·.size) = some (i64s Z).length := by rw [hzl]; exact Tryz.info15
  have hst : (storeCells ⟨w.heap.size, 0, none⟩ (i64s Z) 0).run Tryz.prog (w.alloc (.cells #[.int .i64 0, .int .i64 0, .int .i64 0, .int .i64 0, .int .i64 0, .int .i64 0, .int .i64 0, .int .i64 0, .int .i64 0, .int .i64 0, .int .i64 0, .int .i64 0, .int .i64 0, .int .i64 0, .int .i64 0] 111)) = .ok () (w.alloc (.cells (i64s Z).toArray 111)) :=
    run_storeCells_new (P := Tryz.prog) w 111 _ (i64s Z).toArray (by rw [List.size_toArray]; exact hi15) (Eq.symm (show (i64s Z).toArray.size = 15 by simpa using hzl)) (all_oneCell_toArray (i64s_one Z))
  have d16 : (w.alloc (.cells (i64s Z).toArray 111)).cell? ⟨p, 16, none⟩ = some (.int .i64 (s.length : Int)) := ((After.rfl.alloc (.cells (i64s Z).toArray 111)).cell hlp 16).trans c16
  have hnew : (w.alloc (.cells (i64s Z).toArray 111)).heap[w.heap.size]? = some (.cells (i64s Z).toArray 111 (0, 0)) := heap_alloc_new w _
  have haf : After w (w.alloc (.cells (i64s Z).toArray 111)) := After.rfl.alloc _
  have hsz : (w.alloc (.cells (i64s Z).toArray 111)).heap.size = w.heap.size + 1 := by simp
  generalize w.alloc (.cells (i64s Z).toArray 111) = w2 at *
  have hzz := x.zl
  have htl : (Z.take s.length).length = s.length := by rw [List.length_take]; omega
  have hso := sort_any (cap := 15) hnew (Z.take s.length) (fun i hi => by
    rw [htl] at hi
    rw [List.getElem?_toArray, getD_take Z hi]
    simp [i64s, show i < Z.length by omega]) (by omega)
  rw [htl] at hso
  have hmid : mid s = (rise (Z.take s.length)).getD (place s.length) 0 := by unfold mid; rw [rise_same x.ring.perm]
  generalize rise (Z.take s.length) = R at hso hmid
  have HM := hideIt hmid
  have HS := hideIt hso
  have HW := hideIt haf
  have hpl : place s.length < s.length := by unfold place; omega
  have hpe : place s.length = (s.length - 1) / 2 := rfl
  generalize place s.length = P at *
  generalize s.length = k at *
  have k1 : (0 : Int) < (k : Int) := by omega
  have k2 : (k : Int) ≤ 15 := by omega
  have k3 : ((k : Int) - 1).tdiv 2 = (P : Int) := by rw [Int.tdiv_eq_ediv_of_nonneg (by omega)]; omega
  have k4 : (0 : Int) ≤ (P : Int) := by omega
  have k5 : (P : Int) < 15 := by omega
  have hne : ¬ p = w.heap.size := by omega
  have HF := hideIt (And.intro hpl (And.intro hlp (And.intro hsz hne)))
  clear x hmid hso hnew haf hpl hpe htl hzz hle hs c16
  go_enter Tryz.func92, Tryz.ntmps92
  go_wp2_with (refine wpList_load_mid rfl 111 (.tmp 6) rfl p 0 rfl (i64s Z) _ hrg Tryz.underlying111 rfl hi15 ?_)
  refine HS.out.mono ?_
  rintro e w3 ⟨rfl, b3, c3⟩
  obtain ⟨f1, f2, f3, f4⟩ := HF.out
  have e16 := (b3.cell (g := p) (by omega) f4 16).trans d16
  have ep := c3 P f1
  have HB := hideIt (HW.out.then b3 (fun i hi t => by have : i = w.heap.size := t; omega))
  clear c3 b3 d16 hst hrg hzl hi15 f1 f2 f3 HS HW HF
  go_wp2
  go_ret
  exact ⟨ret_int HM.out.symm, HB.out⟩
end Go.Proofs.YtgapnimicaopcaaGreat.L9
