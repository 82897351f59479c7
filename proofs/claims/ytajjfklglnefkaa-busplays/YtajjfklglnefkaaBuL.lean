/-
  awake: the chapter's bus.
-/
import Derived.Test.YtajjfklglnefkaaBuK
namespace Go.Proofs.Ytajjfklglnefkaa
open Go.RowKit
set_option maxRecDepth 8000
def wk0 : Bz := Bz.new 2 2
def wk1 : Bz := wk0.joinS 1
def wk2 : Bz := wk1.tellS 1 7
def wk3 : Bz := wk2.hearS 0
def wk4 : Bz := wk3.lockS 0 5
def wk5 : Bz := wk4.freeS 0 5
def wk6 : Bz := wk5.lockS 0 6
theorem wk_says : wk0.joinA 1 = (0, 0) ∧ wk1.tellA 1 = (1, 0) ∧ wk2.hearA 0 = (0, 0) ∧ wk2.hearL 0 = [7] ∧ wk3.lockA 0 5 = (true, 0) ∧ wk4.freeA 0 5 = 0 ∧ wk5.lockA 0 6 = (false, 0) ∧ wk6.lockA 0 7 = (true, 0) := by
  refine ⟨by decide, by decide, by decide, by decide, by decide, by decide, by decide, by decide⟩
theorem wk1_upto : wk1.Upto 999999 := joinS_upto (new_upto 2 2 _) 1
set_option maxHeartbeats 2000000 in
theorem awake_any (w : World) : Calls Try.prog 10 #[] w fun e w' => e = .returned (.bool true) ∧ After w w' := by
  have HN := hideIt (sole_new (w := w) (n := 2) (fr := 2) (by omega) (by omega) (by omega) (by omega))
  obtain ⟨e1, e2, e3, e4, e5, e6, e7, e8⟩ := wk_says
  have S1 := hideIt (fun W (h : Sole w W w.heap.size wk0) => h.join 1)
  have S2 := hideIt (fun W (h : Sole w W w.heap.size wk1) => h.tell wk1_upto 1 7)
  have S3 := hideIt (fun W (h : Sole w W w.heap.size wk2) => h.hear 0)
  have S4 := hideIt (fun W v zs (h : Held w W w.heap.size wk3 v zs) => h.locked 0 (t := 5) (by omega))
  have S5 := hideIt (fun W v zs (h : Held w W w.heap.size wk4 v zs) => h.free 0 (t := 5) (by omega))
  have S6 := hideIt (fun W v zs (h : Held w W w.heap.size wk5 v zs) => h.locked 0 (t := 6) (by omega))
  have S7 := hideIt (fun W v zs (h : Held w W w.heap.size wk6 v zs) => h.locked 0 (t := 7) (by omega))
  rw [e1] at S1
  rw [e2] at S2
  rw [e3, e4] at S3
  rw [e5] at S4
  rw [e6] at S5
  rw [e7] at S6
  rw [e8] at S7
  clear e1 e2 e3 e4 e5 e6 e7 e8
  go_enter Try.func10, Try.ntmps10
  go_wp2_with fail
  refine HN.out.mono ?_
  rintro e w1 ⟨rfl, x⟩
  have X0 := hideIt x
  clear x HN
  go_wp2_with fail
  refine (S1.out w1 X0.out).mono ?_
  rintro e w2 ⟨rfl, x⟩
  have X1 := hideIt x
  clear x S1 X0
  go_wp2_with fail
  refine (S2.out w2 X1.out).mono ?_
  rintro e w3 ⟨rfl, x⟩
  have X2 := hideIt x
  clear x S2 X1
  go_wp2_with fail
  refine (S3.out w3 X2.out).mono ?_
  rintro e w4 ⟨v, rfl, x⟩
  have X3 := hideIt x
  clear x S3 X2
  go_wp2_with fail
  refine (S4.out w4 _ _ X3.out).mono ?_
  rintro e w5 ⟨rfl, x⟩
  have X4 := hideIt x
  clear x S4 X3
  go_wp2_with fail
  refine (S5.out w5 _ _ X4.out).mono ?_
  rintro e w6 ⟨rfl, x⟩
  have X5 := hideIt x
  clear x S5 X4
  go_wp2_with fail
  refine (S6.out w6 _ _ X5.out).mono ?_
  rintro e w7 ⟨rfl, x⟩
  have X6 := hideIt x
  clear x S6 X5
  go_wp2_with fail
  refine (S7.out w7 _ _ X6.out).mono ?_
  rintro e w8 ⟨rfl, x⟩
  obtain ⟨a, c, rfl, hr, _⟩ := own_irow x.row
  have al : After w8 (w8.alloc (.cells #[.int .i64 7] 3)) := After.rfl.alloc _
  have HE := hideIt (eqInts_any (w8.alloc (.cells #[.int .i64 7] 3)) a (some ⟨w8.heap.size, 0, none⟩) 1 1 c 1 [7] [7] (hr.after al) (lit_irow (heap_alloc_new w8 _) rfl rfl) (by omega))
  have A8 := hideIt (x.aft.trans al)
  clear x hr al S7 X6
  go_wp2_with (go_at_call 15; go_must (refine HE.out.mono ?_); rintro e w9 ⟨rfl, a9⟩)
  go_ret
  exact ⟨ret_bool (by decide), A8.out.trans a9⟩
end Go.Proofs.Ytajjfklglnefkaa
