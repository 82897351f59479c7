/-
  A message that is handed in, opened: how much its lists hold.
-/
import Derived.Test.YtigiakhdaaoljaaFrameM
namespace Go.Proofs.Ytigiakhdaaoljaa
open Go.ChangeShapes Go.WideShapes Go.ChangeAt Go.RowKit
set_option maxRecDepth 100000
section
variable {H : Type} {enc : TypeId × Value → H} {W : World} {base : Nat} {held : Bool}
theorem open_msgC {ts : List TypeId} {ds : List (DataW H)} (hsz : (DataW.weightsEach Try.prog ts ds).all (· ≤ reachBytes) = true) (j : Nat) {r : Reach} {b0 : Nat} {v : Value} {d : DataW H} {p : List MemPlace} (ht : ts[j]? = some 26) (hd : ds[j]? = some d) (hv : Value.okWide Try.prog W r b0 26 v) (h : DataW.Trod enc Try.prog W base (fun _ => true) held 26 v d p) :
    ∃ M sa sc oa oc ba bc, v = Msg.val M sa sc oa oc ba bc ∧ MsgX W (fun k => k < W.heap.size) M sa sc oa oc ba bc ∧ M.objs.length * 24 ≤ 140737488355328 ∧ M.obs.length * 16 ≤ 140737488355328 := by
  obtain ⟨cs, rfl, hcs⟩ := okWide_struct Try.underlying26 hv
  obtain ⟨fuel, hf⟩ := h
  obtain ⟨y0, y1, y2, y3, y4, y5, y6, n, hx, hl, t0, t1, t2, t3, t4, t5, t6⟩ := trod_struct7 Try.underlying26 hf
  have hl7 : cs.size = 7 := hcs.trans c26
  obtain ⟨l7⟩ := cs
  match l7, hl7 with
  | [x0, x1, x2, x3, x4, x5, x6], _ =>
    have t0' : DataW.trod enc Try.prog W base (fun _ => true) held n 3 [x0] = some y0 := by
      have := t0; simp only [Value.cells, c3, List.drop_zero, List.take_succ_cons, List.take_zero] at this; exact this
    have t1' : DataW.trod enc Try.prog W base (fun _ => true) held n 22 [x1] = some y1 := by
      have := t1; simp only [Value.cells, c22, List.drop_succ_cons, List.drop_zero, List.take_succ_cons, List.take_zero] at this; exact this
    have t2' : DataW.trod enc Try.prog W base (fun _ => true) held n 3 [x2] = some y2 := by
      have := t2; simp only [Value.cells, c3, List.drop_succ_cons, List.drop_zero, List.take_succ_cons, List.take_zero] at this; exact this
    have t3' : DataW.trod enc Try.prog W base (fun _ => true) held n 3 [x3] = some y3 := by
      have := t3; simp only [Value.cells, c3, List.drop_succ_cons, List.drop_zero, List.take_succ_cons, List.take_zero] at this; exact this
    have t4' : DataW.trod enc Try.prog W base (fun _ => true) held n 3 [x4] = some y4 := by
      have := t4; simp only [Value.cells, c3, List.drop_succ_cons, List.drop_zero, List.take_succ_cons, List.take_zero] at this; exact this
    have t5' : DataW.trod enc Try.prog W base (fun _ => true) held n 23 [x5] = some y5 := by
      have := t5; simp only [Value.cells, c23, List.drop_succ_cons, List.drop_zero, List.take_succ_cons, List.take_zero] at this; exact this
    have t6' : DataW.trod enc Try.prog W base (fun _ => true) held n 24 [x6] = some y6 := by
      have := t6; simp only [Value.cells, c24, List.drop_succ_cons, List.drop_zero, List.take_succ_cons, List.take_zero] at this; exact this
    obtain ⟨k, e0, _, _⟩ := DataW.trod_int Try.underlying3 t0'
    obtain ⟨sa, sn, sc, ss, e1, sr, so, sh, _⟩ := open_b t1'
    obtain ⟨c, e2, _, _⟩ := DataW.trod_int Try.underlying3 t2'
    obtain ⟨rr, e3, _, _⟩ := DataW.trod_int Try.underlying3 t3'
    obtain ⟨q, e4, _, _⟩ := DataW.trod_int Try.underlying3 t4'
    obtain ⟨oa, on, oc, os, e5, hol, orow, oo, oh, op⟩ := open_objs t5'
    obtain ⟨ba, bn, bc, bs, e6, hbl, brow, bo, bh, bp, bb⟩ := open_obs t6'
    cases e0; cases e1; cases e2; cases e3; cases e4; cases e5; cases e6
    have hd' : d = .agg [y0.1, y1.1, y2.1, y3.1, y4.1, y5.1, y6.1] := hx
    have w1 : sn ≤ 140737488351232 := by
      rcases sh with rfl | ⟨es, sp, ey, rfl⟩
      · omega
      · have := sized_part hsz j ht hd (n := (es.length + sp.length) * Try.prog.bytesOf 5) (by rw [hd']; simp [DataW.weights, DataW.weightsEach, Try.underlying26, Try.underlying22, ey])
        rw [b5] at this
        omega
    have w2 : on * 24 ≤ 140737488355328 := by
      rcases oh with rfl | ⟨es, sp, ey, rfl⟩
      · omega
      · have := sized_part hsz j ht hd (n := (es.length + sp.length) * Try.prog.bytesOf 42) (by rw [hd']; simp [DataW.weights, DataW.weightsEach, Try.underlying26, Try.underlying23, ey])
        rw [b42] at this
        omega
    have w3 : bn * 16 ≤ 140737488355328 := by
      rcases bh with rfl | ⟨es, sp, ey, rfl⟩
      · omega
      · have := sized_part hsz j ht hd (n := (es.length + sp.length) * Try.prog.bytesOf 46) (by rw [hd']; simp [DataW.weights, DataW.weightsEach, Try.underlying26, Try.underlying24, ey])
        rw [b46] at this
        omega
    have hsl := sr.1
    subst hsl hol hbl
    refine ⟨⟨k, ss, c, rr, q, os, bs⟩, sa, sc, oa, oc, ba, bc, rfl, ⟨sr, so, fun y hy h0 => ?_, by show ss.length ≤ _; omega, orow, oo, op, brow, bo, bp, bb⟩, w2, w3⟩
    obtain ⟨b', off', e', hb', _⟩ := sr.2.2 0 h0
    rw [hy] at e'
    cases e'
    exact hb'
end
end Go.Proofs.Ytigiakhdaaoljaa
