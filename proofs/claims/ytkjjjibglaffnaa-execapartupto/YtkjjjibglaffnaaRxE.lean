/-
  The document's turn, told of an exec in memory.
-/
import Derived.Test.YtkjjjibglaffnaaRxD
namespace Go.Proofs.Ytkjjjibglaffnaa
open Go.RowKit
set_option maxRecDepth 8000
theorem turn_any {w : World} {d : Rq} {x : Xp} (h : Rx w d x) {p s : Int} (p0 : 0 ≤ p) (ps : x.st[p.toNat]? = some s) {a : Option Addr} {cap : Nat} {D : List De} (hD : GRow deE w a D.length D) (da : ∀ y, a = some y → 0 < D.length → ¬ d.In y.block) (hb : D.length ≤ 1000000000) (hd : ∀ e ∈ D, -9223372036854775808 ≤ e.k ∧ e.k ≤ 9223372036854775807) :
    Calls Try.prog 33 #[Ptr d.q, .int .i64 p, .slice a D.length cap] w (TurnedT w d x p (tnOf p s D x.L [])) := by
  obtain ⟨w1, hw1⟩ : ∃ w1, w1 = (w.alloc (.cells #[.int .i64 0, .int .i64 0, .bool false, .bool false, .slice none 0 0] 92)).alloc (.cells #[.int .i64 p, .int .i64 0, .bool false, .bool false, .slice none 0 0] 92) := ⟨_, rfl⟩
  have a1 : After w w1 := by rw [hw1]; exact (After.rfl.alloc _).alloc _
  have hs := (h.ok.ss s (List.mem_of_getElem? ps))
  have hsz : (w.alloc (.cells #[.int .i64 0, .int .i64 0, .bool false, .bool false, .slice none 0 0] 92)).heap.size = w.heap.size + 1 := by simp
  have R : Rt ⟨w, d, x, w.heap.size + 1, w.heap.size, p, s, a, cap, D⟩ w1 (.slice none 0 0) ⟨Tn.new, x.L, 0, []⟩ := by
    refine ⟨h.after a1, ?_, ⟨.int .i64 0, .int .i64 0, .bool false, .bool false, .slice none 0 0, ?_⟩, ⟨rfl, .inl ⟨rfl, rfl⟩⟩, hD.after a1, fun y hy hn => ?_, (by show w.heap.size ≤ w.heap.size + 1; omega), Nat.le_refl _, (by show w.heap.size ≠ w.heap.size + 1; omega), (fun k hk => by cases hk), fun k hk => h.lt k hk, a1.but, ⟨Int.le_refl _, hs.1⟩, hs.2, p0, ps⟩
    · show w1.heap[w.heap.size + 1]? = _
      rw [hw1, ← hsz]
      exact heap_alloc_new _ _
    · show w1.heap[w.heap.size]? = _
      rw [hw1]
      exact ((After.rfl.alloc _).block w.heap.size (by rw [hsz]; omega) (fun t => t)).trans (heap_alloc_new w _)
    · obtain ⟨b, off, e, hl⟩ := hD.lt hn
      have e' : a = some y := hy
      rw [e'] at e
      cases e
      exact ⟨hl, da _ hy hn⟩
  exact turn_any2 (r := ⟨w, d, x, w.heap.size + 1, w.heap.size, p, s, a, cap, D⟩) rfl R hw1 rfl rfl rfl hb hd
end Go.Proofs.Ytkjjjibglaffnaa
