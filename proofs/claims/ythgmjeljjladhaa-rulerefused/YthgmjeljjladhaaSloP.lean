/-
  More single operations: what is taken out of a tuple; nodes, channels and readings that are loaded.
-/
import Derived.Test.YthgmjeljjladhaaSloO
namespace Go.Proofs.Ythgmjeljjladhaa
open Go.RowKit
set_option maxRecDepth 8000
theorem wp_extract {o : Oper} {a : Act} {w : World} {K : Act → World → Prop} {Q : Exit → Act → World → Prop} {i : Nat} {x : Operand} {p v : Value} (ho : o.op = .extract x i) (hx : a.eval x = p) (hr : (Instr.extract p i).run Try.prog w = .ok v w) (h : K (a.put o.dst v) w) : Oper.wp Try.prog o a w K Q := by
  refine wp_val (r := Instr.extract p i) ?_ hr h
  unfold execOp
  simp [ho, hx]
theorem extr0 (u v : Value) (w : World) : (Instr.extract (.tuple #[u, v]) 0).run Try.prog w = .ok u w := by simp [go_sem]
theorem extr1 (u v : Value) (w : World) : (Instr.extract (.tuple #[u, v]) 1).run Try.prog w = .ok v w := by simp [go_sem]
theorem indexN (w : World) (b off n c k : Nat) (hk : (k : Int) < (n : Int)) : (Instr.indexAt 22 (.slice (some ⟨b, off, none⟩) n c) (.int .i64 (k : Int))).run Try.prog w = .ok (.pointer (some ⟨b, off + k * 4, none⟩)) w := by
  simp [go_sem, hk]
theorem loadNodeAt {w : World} {g i : Nat} {x : Nd} (h0 : w.cell? ⟨g, i, none⟩ = some (.int .i64 x.op)) (h1 : w.cell? ⟨g, i + 1, none⟩ = some (.int .i64 x.a)) (h2 : w.cell? ⟨g, i + 2, none⟩ = some (.int .i64 x.b)) (h3 : w.cell? ⟨g, i + 3, none⟩ = some (.int .i64 x.n)) : (Instr.loadAt 38 (.pointer (some ⟨g, i, none⟩))).run Try.prog w = .ok x.val w := by
  unfold Nd.val
  simp [go_sem, h0, h1, h2, h3]
theorem loadChan {w : World} {g : Nat} {c : Ch} (h : w.heap[g]? = some (.cells #[.int .i64 c.p, .int .i64 c.h, .int .i64 c.k, .int .i64 c.m, .int .i64 c.s, .int .i64 c.lo, .int .i64 c.hi] 42 (0, 0))) : (Instr.loadAt 42 (Ptr g)).run Try.prog w = .ok c.val w := by
  have h0 := blk_cell h (i := 0) rfl
  have h1 := blk_cell h (i := 1) rfl
  have h2 := blk_cell h (i := 2) rfl
  have h3 := blk_cell h (i := 3) rfl
  have h4 := blk_cell h (i := 4) rfl
  have h5 := blk_cell h (i := 5) rfl
  have h6 := blk_cell h (i := 6) rfl
  unfold Ptr Ch.val
  simp [go_sem, h0, h1, h2, h3, h4, h5, h6]
theorem loadRead {w : World} {g : Nat} {r : Rd} (h : w.heap[g]? = some (.cells #[.int .i64 r.s, .int .i64 r.v] 48 (0, 0))) : (Instr.loadAt 48 (Ptr g)).run Try.prog w = .ok r.val w := by
  have h0 := blk_cell h (i := 0) rfl
  have h1 := blk_cell h (i := 1) rfl
  unfold Ptr Rd.val
  simp [go_sem, h0, h1]
end Go.Proofs.Ythgmjeljjladhaa
