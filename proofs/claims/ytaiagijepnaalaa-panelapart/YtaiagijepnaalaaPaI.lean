/-
  The statements' helpers: the chapter's panel, few.
-/
import Derived.Test.YtaiagijepnaalaaPaH
namespace Go.Proofs.Ytaiagijepnaalaa
open Go.RowKit
set_option maxRecDepth 8000
theorem wp_rvec {o : Oper} {a : Act} {w : World} {K : Act → World → Prop} {Q : Exit → Act → World → Prop} (x : Operand) (ho : o.op = .load 29 x) {g : Nat} (hx : a.eval x = Ptr g) {v : Vec} (hv : v.Ok) (hb : VecAt w g v) (h : K (a.put o.dst v.v) w) : Oper.wp Try.prog o a w K Q :=
  wp_load_mid 29 x ho g 0 hx v.cs _ (blk_range hb) Try.underlying29 rfl (by rw [hv.len]; exact Try.infoVec) h
/-- A vector is read, guarded or not. -/
theorem wl_gvec {ops : Array Oper} {rest : List Oper} {o : Oper} {a : Act} {w : World} {Q : Exit → Act → World → Prop} (x : Operand) (ho : o.op = .load 29 x) (hw : Region.wanted o (yielded ops a.tmps) = true) {g : Nat} (hx : a.eval x = Ptr g) {v : Vec} (hv : v.Ok) (hb : VecAt w g v)
    (h : wpList Try.prog ops Q rest (a.put o.dst v.v) w) : wpList Try.prog ops Q (o :: rest) a w :=
  wpList_step fun K hK => by
    rw [if_pos hw]
    exact wp_rvec x ho hx hv hb (hK _ _ h)
def wkL : List As := [As.zero, ⟨2, 3, 0, 0⟩, ⟨1, 1, 0, 0⟩]
def wkV : Vec := ofV wkL false [false]
theorem wkV_ok : wkV.Ok := ofV_ok _ _ _
theorem wkV_grv : grv wkV wkV = true := by rfl
theorem works_any (w : World) : Calls Try.prog 13 #[] w fun e w' => e = .returned (.bool true) ∧ After w w' := by
  obtain ⟨w0, h0⟩ : ∃ w0, w0 = (w.alloc (.cells #[.int .i64 0, .int .i64 0, .int .i64 0, .int .i64 0, .int .i64 2, .int .i64 3, .int .i64 0, .int .i64 0, .int .i64 1, .int .i64 1, .int .i64 0, .int .i64 0] 35)).alloc (.cells #[.bool false] 4) := ⟨_, rfl⟩
  have hA := alloc_two w (.cells #[.int .i64 0, .int .i64 0, .int .i64 0, .int .i64 0, .int .i64 2, .int .i64 3, .int .i64 0, .int .i64 0, .int .i64 1, .int .i64 1, .int .i64 0, .int .i64 0] 35) (.cells #[.bool false] 4)
  rw [← h0] at hA
  have r1 : GRow asE w0 (some ⟨w.heap.size, 0, none⟩) 3 wkL := lit_row hA.1 rfl rfl
  have r2 : GRow blE w0 (some ⟨w.heap.size + 1, 0, none⟩) 1 [false] := lit_row hA.2.1 rfl rfl
  have H := hideIt (of_yes w0 (some ⟨w.heap.size, 0, none⟩) (some ⟨w.heap.size + 1, 0, none⟩) 3 3 1 1 false wkL [false] r1 r2 (by decide) (by decide))
  rw [show ofV wkL false [false] = wkV from rfl] at H
  have A := hideIt hA.2.2
  clear hA r1 r2
  go_enter Try.func13, Try.ntmps13
  go_wp2_with fail
  rw [← h0]
  clear h0
  refine H.out.mono ?_
  rintro e w1 ⟨rfl, a1⟩
  have f0 := wkV_ok
  have f1 : wkV.sg[1]? = some ⟨true, false, 3⟩ := rfl
  have f2 : wkV.sg[2]? = some ⟨true, true, 1⟩ := rfl
  have f3 : wkV.top = 3 := rfl
  have f4 : wkV.tone = 1 := rfl
  have f5 : wkV.lk = [false, true, true, true] := rfl
  have HG := fun V => graver_any V wkV wkV f0 f0
  rw [wkV_grv] at HG
  generalize wkV = W at *
  have F := hideIt (And.intro f0 (And.intro f1 (And.intro f2 (And.intro f3 (And.intro f4 f5)))))
  have G := hideIt HG
  have A1 := hideIt (A.out.trans a1)
  clear f0 f1 f2 f3 f4 f5 HG a1 A H
  go_upto_region 2 with (first | (show wpList _ _ _ (_ :: _) _ _; refine wl_avec rfl rfl ?_; intro w3 v3 a3 s3) | (show wpList _ _ _ (_ :: _) _ _; refine wl_vec _ _ rfl rfl rfl (v := W) rfl Vec.Ok.zero F.out.1 v3 ?_; intro w4 v4 b4 s4) | fail)
  have hl : w.heap.size ≤ w1.heap.size := A1.out.size
  have a4 : After w w4 := But.then (A1.out.trans a3) b4 (fun i hi (t : i = w1.heap.size) => by omega)
  obtain ⟨m0, m1, -⟩ := v4.cell_mid F.out.1
  rw [F.out.2.2.2.1] at m0
  rw [F.out.2.2.2.2.1] at m1
  obtain ⟨x0, x1, x2⟩ := v4.cell_sg F.out.1 F.out.2.1
  obtain ⟨y0, y1, y2⟩ := v4.cell_sg F.out.1 F.out.2.2.1
  have k0 := v4.cell_lk F.out.1 (i := 0) (by decide)
  have k1 := v4.cell_lk F.out.1 (i := 1) (by decide)
  have k2 := v4.cell_lk F.out.1 (i := 2) (by decide)
  have k3 := v4.cell_lk F.out.1 (i := 3) (by decide)
  rw [F.out.2.2.2.2.2] at k0 k1 k2 k3
  simp only [List.getD_cons_zero, List.getD_cons_succ, Nat.reduceAdd, Nat.reduceMul, Nat.add_zero] at x0 x1 x2 y0 y1 y2 k0 k1 k2 k3
  have E := hideIt (And.intro v4 a4)
  have eq27 : ∀ V, (Op.equalIn 10000 27 (.agg #[.bool false, .bool true, .bool true, .bool true]) (.agg #[.bool false, .bool true, .bool true, .bool true])).run Try.prog V = .ok true V := eqLks 9998 [false, true, true, true] rfl
  clear v3 a3 s3 v4 b4 s4 hl a4
  go_wp2_with (first | (show wpList _ _ _ (_ :: _) _ _; refine wl_gvec _ rfl rfl rfl F.out.1 E.out.1 ?_) | fail)
  refine (G.out w4).mono ?_
  rintro e w5 ⟨rfl, a5⟩
  have A5 := hideIt (E.out.2.trans a5)
  clear a5
  go_wp2
  go_ret
  exact ⟨rfl, A5.out⟩
theorem few_any (w : World) (a : Option Addr) (n c : Nat) (hc : n ≤ c) (ha : a = none → n = 0 ∧ c = 0) : Calls Try.prog 16 #[.slice a n c] w fun e w' => e = .returned (.slice a (min n 26) c) ∧ After w w' := by
  cases a with
  | none =>
    obtain ⟨rfl, rfl⟩ := ha rfl
    clear ha
    go_enter Try.func16, Try.ntmps16
    go_wp2
    go_ret
    exact ⟨rfl, After.rfl⟩
  | some x =>
    clear ha
    rcases (show n ≤ 26 ∨ 26 < n by omega) with h | h
    · have e1 : min n 26 = n := by omega
      rw [e1]
      have e2 : min (n : Int) 26 = (n : Int) := by omega
      go_enter Try.func16, Try.ntmps16
      go_wp2
      go_ret
      exact ⟨rfl, After.rfl⟩
    · have e1 : min n 26 = 26 := by omega
      rw [e1]
      have e2 : min (n : Int) 26 = 26 := by omega
      go_enter Try.func16, Try.ntmps16
      go_wp2
      go_ret
      exact ⟨rfl, After.rfl⟩
end Go.Proofs.Ytaiagijepnaalaa
