/-
  More single operations: rows of bools that are read and written; channels, rows and readings by their place.
-/
import Derived.Test.YthgmjeljjladhaaSloP
namespace Go.Proofs.Ythgmjeljjladhaa
open Go.RowKit
set_option maxRecDepth 8000
theorem wp_storeB {o : Oper} {a : Act} {w : World} {K : Act → World → Prop} {Q : Exit → Act → World → Prop} {x y : Operand} {g j : Nat} {b q : Bool} (ho : o.op = .store 4 x y) (hd : o.dst = none) (hx : a.eval x = .pointer (some ⟨g, j, none⟩)) (hy : a.eval y = .bool b) (hc : w.cell? ⟨g, j, none⟩ = some (.bool q)) (hf : w.frozen? ⟨g, j, none⟩ = false) (h : K a (w.setCell ⟨g, j, none⟩ (.bool b))) : Oper.wp Try.prog o a w K Q := by
  have hr : (Instr.storeAt 4 (.pointer (some ⟨g, j, none⟩)) (.bool b)).run Try.prog w = .ok () (w.setCell ⟨g, j, none⟩ (.bool b)) := by simp [go_sem, hc, hf]
  unfold Oper.wp execOp
  simp only [ho]
  rw [hx, hy]
  simp [hr, Oper.upon]
  rw [hd]
  exact h
theorem indexB0 (w : World) (g n c k : Nat) (hk : (k : Int) < (n : Int)) : (Instr.indexAt 70 (.slice (some ⟨g, 0, none⟩) n c) (.int .i64 (k : Int))).run Try.prog w = .ok (.pointer (some ⟨g, k, none⟩)) w := by
  simp [go_sem, hk]
theorem indexR (w : World) (b off n c k : Nat) (hk : (k : Int) < (n : Int)) : (Instr.indexAt 78 (.slice (some ⟨b, off, none⟩) n c) (.int .i64 (k : Int))).run Try.prog w = .ok (.pointer (some ⟨b, off + k, none⟩)) w := by
  simp [go_sem, hk]
theorem indexC (w : World) (b off n c k : Nat) (hk : (k : Int) < (n : Int)) : (Instr.indexAt 23 (.slice (some ⟨b, off, none⟩) n c) (.int .i64 (k : Int))).run Try.prog w = .ok (.pointer (some ⟨b, off + k * 7, none⟩)) w := by
  simp [go_sem, hk]
theorem indexT (w : World) (b off n c k : Nat) (hk : (k : Int) < (n : Int)) : (Instr.indexAt 24 (.slice (some ⟨b, off, none⟩) n c) (.int .i64 (k : Int))).run Try.prog w = .ok (.pointer (some ⟨b, off + k, none⟩)) w := by
  simp [go_sem, hk]
theorem indexD (w : World) (b off n c k : Nat) (hk : (k : Int) < (n : Int)) : (Instr.indexAt 43 (.slice (some ⟨b, off, none⟩) n c) (.int .i64 (k : Int))).run Try.prog w = .ok (.pointer (some ⟨b, off + k * 2, none⟩)) w := by
  simp [go_sem, hk]
theorem loadBs {w : World} {g i : Nat} {a : Option Addr} {n c : Nat} (h0 : w.cell? ⟨g, i, none⟩ = some (.slice a n c)) : (Instr.loadAt 70 (.pointer (some ⟨g, i, none⟩))).run Try.prog w = .ok (.slice a n c) w := by
  simp [go_sem, h0]
theorem loadDs {w : World} {g i : Nat} {a : Option Addr} {n c : Nat} (h0 : w.cell? ⟨g, i, none⟩ = some (.slice a n c)) : (Instr.loadAt 43 (.pointer (some ⟨g, i, none⟩))).run Try.prog w = .ok (.slice a n c) w := by
  simp [go_sem, h0]
theorem loadI {w : World} {g i : Nat} {n : Int} (h0 : w.cell? ⟨g, i, none⟩ = some (.int .i64 n)) : (Instr.loadAt 3 (.pointer (some ⟨g, i, none⟩))).run Try.prog w = .ok (.int .i64 n) w := by
  simp [go_sem, h0]
theorem loadChanAt {w : World} {g i : Nat} {c : Ch} (h0 : w.cell? ⟨g, i, none⟩ = some (.int .i64 c.p)) (h1 : w.cell? ⟨g, i + 1, none⟩ = some (.int .i64 c.h)) (h2 : w.cell? ⟨g, i + 2, none⟩ = some (.int .i64 c.k)) (h3 : w.cell? ⟨g, i + 3, none⟩ = some (.int .i64 c.m)) (h4 : w.cell? ⟨g, i + 4, none⟩ = some (.int .i64 c.s)) (h5 : w.cell? ⟨g, i + 5, none⟩ = some (.int .i64 c.lo)) (h6 : w.cell? ⟨g, i + 6, none⟩ = some (.int .i64 c.hi)) : (Instr.loadAt 42 (.pointer (some ⟨g, i, none⟩))).run Try.prog w = .ok c.val w := by
  unfold Ch.val
  simp [go_sem, h0, h1, h2, h3, h4, h5, h6]
theorem loadReadAt {w : World} {g i : Nat} {r : Rd} (h0 : w.cell? ⟨g, i, none⟩ = some (.int .i64 r.s)) (h1 : w.cell? ⟨g, i + 1, none⟩ = some (.int .i64 r.v)) : (Instr.loadAt 48 (.pointer (some ⟨g, i, none⟩))).run Try.prog w = .ok r.val w := by
  unfold Rd.val
  simp [go_sem, h0, h1]
theorem fieldN (g : Nat) (w : World) (i : Nat) (hi : i < 4) : (Instr.fieldAt 38 (Ptr g) i).run Try.prog w = .ok (.pointer (some ⟨g, i, none⟩)) w := by
  unfold Ptr
  rcases (by omega : i = 0 ∨ i = 1 ∨ i = 2 ∨ i = 3) with rfl | rfl | rfl | rfl
  all_goals simp [go_sem]
theorem subI {n m k : Int} (h : n - m = k) (h1 : -9223372036854775808 ≤ k) (h2 : k ≤ 9223372036854775807) (x y : Operand) (w : World) : (do eqGuard .sub 3 x y (.int .i64 n) (.int .i64 m); binOp .sub 3 (.int .i64 n) (.int .i64 m) : Sem Value).run Try.prog w = .ok (.int .i64 k) w := by
  subst h
  have e : IntKind.i64.wrap (n - m) = n - m := IntWalk.i64_in _ ⟨h1, h2⟩
  simp [eqGuard, go_sem, e]
end Go.Proofs.Ythgmjeljjladhaa
