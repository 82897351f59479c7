/-
  The document's Step.
-/
import Derived.Test.YthggkpmhcdmalaaAlU0
import Derived.Test.YthggkpmhcdmalaaAlU1
import Derived.Test.YthggkpmhcdmalaaAlU2
namespace Go.Proofs.Ythggkpmhcdmalaa
open Go.RowKit
theorem refStep_any {w : World} {p : Nat} {s : Sp} {x : As} (h : Rl w p s x) (act : Bool) : Calls Try.prog 28 #[Ptr p, .bool act] w fun e w' => ∃ v, e = .returned (.tuple #[v, .int .i64 0]) ∧ OInts w' w.heap.size v (stE s x act) ∧ Rl w' p s (stS s x act) ∧ But (One p) w w' := by
  have := h.st.1
  rcases (by omega : x.pa = 0 ∨ x.pa = 1 ∨ 1 < x.pa) with e | e | e
  · exact refStep_0 h e act
  · exact refStep_1 h e act
  · exact refStep_2 h e act
end Go.Proofs.Ythggkpmhcdmalaa
