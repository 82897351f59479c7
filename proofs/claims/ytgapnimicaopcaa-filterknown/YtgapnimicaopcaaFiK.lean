/-
  Reals that are made anew: 64, 65 of them.
-/
import Derived.Test.YtgapnimicaopcaaB01
import Derived.Laws.MakeOwn
namespace Go.Proofs.Ytgapnimicaopcaa
open Go.RowKit
set_option maxRecDepth 8000
def zeros (n : Nat) : List Rl := List.replicate n ⟨0, 0, 0⟩
theorem make65 (w : World) : (Instr.makeSlice 33 (.int .i64 65) (.int .i64 65)).run Try.prog w = .ok (.slice (some ⟨w.heap.size, 0, none⟩) 65 65) (w.alloc (.cells (rls (zeros 65)).toArray 37)) := by kernel_rfl
theorem make64 (w : World) : (Instr.makeSlice 33 (.int .i64 64) (.int .i64 64)).run Try.prog w = .ok (.slice (some ⟨w.heap.size, 0, none⟩) 64 64) (w.alloc (.cells (rls (zeros 64)).toArray 37)) := by kernel_rfl
theorem rrow_blk {w : World} {g : Nat} {l : List Rl} (h : w.heap[g]? = some (.cells (rls l).toArray 37 (0, 0))) : RRow w (some ⟨g, 0, none⟩) l.length l := by
  refine ⟨rfl, fun i hi => ?_⟩
  obtain ⟨h0, h1, h2⟩ := rls_at l i l[i] (List.getElem?_eq_getElem hi)
  refine ⟨g, 0, l[i], rfl, blk_lt h, List.getElem?_eq_getElem hi, ?_, ?_, ?_⟩
  · have k : (rls l).toArray[0 + i * 3]? = some (.int .i64 l[i].k) := by simpa using h0
    exact blk_cell h k
  · have k : (rls l).toArray[0 + i * 3 + 1]? = some (.int .i64 l[i].m) := by simpa using h1
    exact blk_cell h k
  · have k : (rls l).toArray[0 + i * 3 + 2]? = some (.int .i64 l[i].e) := by simpa using h2
    exact blk_cell h k
end Go.Proofs.Ytgapnimicaopcaa
