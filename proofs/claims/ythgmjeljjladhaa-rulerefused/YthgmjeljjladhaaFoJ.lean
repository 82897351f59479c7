/-
  text, four, with, copied, may: what they answer.
-/
import Derived.Test.YthgmjeljjladhaaFoI
namespace Go.Proofs.Ythgmjeljjladhaa
open Go.RowKit Go.Maps
set_option maxRecDepth 8000
theorem hld_ok {L : List Nd} {C : List Ch} {T : List (List Rd)} (hc : chk L (C.length : Int) = 0) (hT : ∀ l ∈ T, l.length = C.length) {j : Nat} (hj : j < T.length) : hld L C T (j : Int) = (val L C T (L.length - 1) j, 0) := by
  unfold hld
  rw [if_neg (by rw [hc]; simp), if_neg (by simp only [Classical.not_not]; exact hT), if_neg (by omega)]
  rfl
theorem bits_succ (f : Nat → Bool) (j : Nat) : bitsOf f (j + 1) = bitsOf f j ++ (if f j = true then ⟨#[49]⟩ else ⟨#[48]⟩) := rfl
theorem Try.infoNode : (Try.prog.info? 38).map (fun i => (i.zero, i.size, i.bytes)) = some (some (.agg #[.int .i64 0, .int .i64 0, .int .i64 0, .int .i64 0]), 4, 32) := by kernel_rfl
/-- The chapter's channel and trace. -/
def fourC : List Ch := [⟨0, 0, 0, 0, 0, 1000, 5000⟩]
def fourT : List (List Rd) := [[⟨1, 2000⟩], [⟨1, 6000⟩], [⟨3, 0⟩], [⟨1, 500⟩]]
/-- A past that lies in memory. -/
structure PastAt (w : World) (v : Value) (C : List Ch) (T : List (List Rd)) : Prop where
  ex : ∃ ac cc aT ct X, v = .agg #[.slice ac C.length cc, .slice aT T.length ct] ∧ CRow w ac C.length C ∧ TRow w aT T.length X ∧ rdsOf X = T
theorem PastAt.after {w w' : World} {v : Value} {C : List Ch} {T : List (List Rd)} (h : PastAt w v C T) (a : After w w') : PastAt w' v C T := by
  obtain ⟨ac, cc, aT, ct, X, e, h1, h2, h3⟩ := h
  exact ⟨ac, cc, aT, ct, X, e, h1.after a, h2.after a, h3⟩
theorem new_blk {w W : World} {o : Obj} (h : After (w.alloc o) W) : W.heap[w.heap.size]? = some o := (h.block _ (by simp) (fun t => t)).trans (heap_alloc_new w o)
end Go.Proofs.Ythgmjeljjladhaa
